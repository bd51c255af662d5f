/- The desk's small calls: leave, number. · The reference's num and split. · The reference's cells and listed. -/
import Derived.Test.YtibfgbmhmdggmaaGreatDoorLib0
import Derived.Test.YtibfgbmhmdggmaaGreatDoorShelf
import Derived.Shelf.Strings.SlTrimAscii
import Derived.Lib.AtoiErrMem
namespace Go.Proofs.YtibfgbmhmdggmaaGreatDoor.B
set_option maxHeartbeats 32000000
set_option maxRecDepth 100000
open Go.ChangeShapes Go.WideShapes Go.ChangeAt Go.RowKit
abbrev left (x : Int) : Ending := .panicked [{ v := .iface 22 (.int .i64 x), recovered := false }]
theorem leave_ok (w : World) : Calls Tryz.prog 40 #[.int .i64 0] w fun e w' => e = .returned (.tuple #[]) ∧ w' = w := by
 go_enter Tryz.func40, Tryz.ntmps40
 go_wp2_with fail
 refine bodyPost_end (results_none rfl _ _ _) rfl ?_
 exact ⟨rfl, rfl⟩
theorem leave_no (x : Int) (hx : x ≠ 0) (w : World) : Calls Tryz.prog 40 #[.int .i64 x] w fun e w' => e = left x ∧ w' = w := by
 have hb : (x != 0) = true := by simpa using hx
 go_enter Tryz.func40, Tryz.ntmps40
 go_wp2_with fail
 exact ⟨rfl, rfl, rfl⟩
def zeroA (s : List UInt8) : Bool := (s.head? == some 48) && !(s == [48])
def noNum (s : List UInt8) : Bool := out 1 6 [(s.length : Int)] || zeroA s || !(s.all isDig)
theorem noNum_eq (s : List UInt8) : noNum s = decide (numR s < 0) := by
 rw [numR_eq]
 unfold noNum
 by_cases h1 : 1 ≤ s.length ∧ s.length ≤ 6
 ·have ho : out 1 6 [(s.length : Int)] = false := by unfold out; simp; omega
  have hz : zeroA s = !(noZero s) := by
   unfold zeroA noZero
   cases s with
   | nil => simp at h1
   | cons b l =>
    cases l with
    | nil => simp
    | cons c l => simp
  rw [ho, hz, Bool.false_or]
  cases hn : noZero s <;> cases ha : s.all isDig <;> simp [h1]
 ·have ho : out 1 6 [(s.length : Int)] = true := by unfold out; simp; omega
  rw [ho, if_neg (fun x => h1 ⟨x.1, x.2.1⟩)]
  simp
theorem no1 (s : List UInt8) (b : Nat) (w : World) (h : w.cell? ⟨b, 0, none⟩ = some (tx s)) (_hs : s.length ≤ 5000) :
  Calls Tryz.prog 119 #[.pointer (some ⟨b, 0, none⟩)] w fun e w' => e = .returned (.bool (out 1 6 [(s.length : Int)])) ∧ Ext w w' := by
 go_enter Tryz.func119, Tryz.ntmps119
 go_wp2_with fail
 refine (outside_n 1 1 6 _ 0 1 [(s.length : Int)] _ rfl (by decide) (cells1 (by simp [go_sem]))).mono ?_
 rintro e w1 ⟨rfl, rfl⟩
 go_wp2_with fail
 go_ret
 exact ⟨rfl, (Ext.refl _).alloc _⟩
theorem no2 (s : List UInt8) (b : Nat) (w : World) (h : w.cell? ⟨b, 0, none⟩ = some (tx s)) (hs : s.length ≤ 5000) (hn : s ≠ []) :
  Calls Tryz.prog 120 #[.pointer (some ⟨b, 0, none⟩)] w fun e w' => e = .returned (.bool (zeroA s)) ∧ Ext w w' := by
 cases s with
 | nil => exact absurd rfl hn
 | cons c l =>
  have hc0 : ((⟨(c :: l).toArray⟩ : ByteArray)[0]'(by simp [ByteArray.size])) = c := rfl
  by_cases hc : c = 48
  ·have HZ : Hid (zeroA (c :: l) = (!(c == 48) || !l.isEmpty)) := by show _ = _; unfold zeroA; cases l <;> simp [hc]
   have h48 : ((((⟨(c :: l).toArray⟩ : ByteArray)[0]'(by simp [ByteArray.size])).toNat : Nat) : Int) = 48 := by rw [hc0, hc]; rfl
   clear hc hc0
   go_enter Tryz.func120, Tryz.ntmps120
   go_wp2_with fail
   go_ret
   exact ⟨by rw [HZ.out]; rfl, Ext.refl _⟩
  ·have HZ : Hid (zeroA (c :: l) = false) := by show _ = _; unfold zeroA; simp [hc]
   have h48 : ¬ ((((⟨(c :: l).toArray⟩ : ByteArray)[0]'(by simp [ByteArray.size])).toNat : Nat) : Int) = 48 := by
    rw [hc0]; intro e; exact hc (UInt8.toNat_inj.1 (by have : (48 : UInt8).toNat = 48 := rfl; omega))
   clear hc hc0
   go_enter Tryz.func120, Tryz.ntmps120
   go_wp2_with fail
   go_ret
   exact ⟨by rw [HZ.out]; rfl, Ext.refl _⟩
theorem no3 (s : List UInt8) (b : Nat) (w : World) (h : w.cell? ⟨b, 0, none⟩ = some (tx s)) (hs : s.length ≤ 5000) :
  Calls Tryz.prog 121 #[.pointer (some ⟨b, 0, none⟩)] w fun e w' => e = .returned (.bool (!(s.all isDig))) ∧ Ext w w' := by
 have hcon := Any.strings_Trim_laid Tryz.lays160 (by kernel_rfl) ⟨s.toArray⟩ ⟨digS.toArray⟩ w (by simp [ByteArray.size]; omega) (by decide) (ascii_of_all (by decide))
 change Calls Tryz.prog 122 _ _ (fun e w' => e = .returned (tx (Go.Lib.trimS s digS)) ∧ Below w.heap.size w w') at hcon
 have HT : Hid ((Go.Lib.trimS s digS = []) ↔ s.all isDig = true) := trim_nil s
 generalize Go.Lib.trimS s digS = r at *
 go_enter Tryz.func121, Tryz.ntmps121
 go_wp2_with fail
 refine hcon.mono ?_
 rintro e w1 ⟨rfl, hw⟩
 go_wp2_with fail
 go_ret
 refine ⟨?_, hw⟩
 have hb : r.isEmpty = s.all isDig := by
  cases ha : s.all isDig
  ·rw [Bool.eq_false_iff, Ne, List.isEmpty_iff]
   intro e
   have := HT.out.1 e
   rw [ha] at this
   cases this
  ·rw [List.isEmpty_iff]
   exact HT.out.2 ha
 rw [← hb]
 rfl
theorem no1_ans (s : List UInt8) (b : Nat) (w : World) (h : w.cell? ⟨b, 0, none⟩ = some (tx s)) (hs : s.length ≤ 5000) : Ans 119 #[.pointer (some ⟨b, 0, none⟩)] w (out 1 6 [(s.length : Int)]) :=
 ⟨fun w => callFunc_enter _ w Tryz.func119 (by kernel_rfl) (by kernel_rfl), fun w' e => no1 s b w' (e.cell h) hs⟩
theorem no2_ans (s : List UInt8) (b : Nat) (w : World) (h : w.cell? ⟨b, 0, none⟩ = some (tx s)) (hs : s.length ≤ 5000) (hn : s ≠ []) : Ans 120 #[.pointer (some ⟨b, 0, none⟩)] w (zeroA s) :=
 ⟨fun w => callFunc_enter _ w Tryz.func120 (by kernel_rfl) (by kernel_rfl), fun w' e => no2 s b w' (e.cell h) hs hn⟩
theorem no3_ans (s : List UInt8) (b : Nat) (w : World) (h : w.cell? ⟨b, 0, none⟩ = some (tx s)) (hs : s.length ≤ 5000) : Ans 121 #[.pointer (some ⟨b, 0, none⟩)] w (!(s.all isDig)) :=
 ⟨fun w => callFunc_enter _ w Tryz.func121 (by kernel_rfl) (by kernel_rfl), fun w' e => no3 s b w' (e.cell h) hs⟩
theorem noNumber_any (s : List UInt8) (hs : s.length ≤ 5000) (w : World) :
  Calls Tryz.prog 83 #[tx s] w fun e w' => e = .returned (.bool (noNum s)) ∧ Ext w w' := by
 have HN : Hid (noNum s = (out 1 6 [(s.length : Int)] || (zeroA s || !(s.all isDig)))) := by show _ = _; unfold noNum; rw [Bool.or_assoc]
 have hne : out 1 6 [(s.length : Int)] = false → s ≠ [] := fun h e => by rw [e] at h; exact absurd h (by decide)
 go_enter Tryz.func83, Tryz.ntmps83
 go_wp2_with fail
 refine (any3 119 120 121 #[.pointer (some ⟨w.heap.size, 0, none⟩)] #[.pointer (some ⟨w.heap.size, 0, none⟩)] #[.pointer (some ⟨w.heap.size, 0, none⟩)] _ _ _ (by simp [go_sem]) (by simp [go_sem]) (by simp [go_sem]) (no1_ans s _ _ (by simp [go_sem]) hs) (fun h => no2_ans s _ _ (by simp [go_sem]) hs (hne h)) (fun _ _ => no3_ans s _ _ (by simp [go_sem]) hs)).mono ?_
 rintro e w1 ⟨rfl, hw1⟩
 have hE : Ext w w1 := ((Ext.refl _).alloc _).alloc _ |>.trans hw1
 go_wp2_with fail
 go_ret
 exact ⟨by rw [HN.out]; rfl, hE⟩
theorem bytesW_ext (w : World) (e : TypeId) (s : ByteArray) : Ext w (Go.Lib.bytesWorld w e s) := Go.Lib.bytesWorld_below w e s
theorem number_ok (s : List UInt8) (hs : s.length ≤ 5000) (hn : 0 ≤ numR s) (w : World) :
  Calls Tryz.prog 41 #[tx s] w fun e w' => e = .returned (.int .i64 (numR s)) ∧ Ext w w' := by
 have hb : noNum s = false := by rw [noNum_eq]; simp; omega
 have hv : s.length ≤ 6 ∧ s ≠ [] ∧ s.all isDig = true ∧ numR s = (valOf s : Nat) := by
  have h1 := numR_eq s
  split at h1
  ·rename_i h2
   exact ⟨h2.2.1, fun e => by rw [e] at h2; exact absurd h2.1 (by decide), h2.2.2.1, h1⟩
  ·omega
 have hat := Tryz.strconv_Atoi ⟨s.toArray⟩ (numR s) (by simp [ByteArray.size]; omega) (by rw [hv.2.2.2]; exact atoi_val hv.2.2.1 hv.2.1)
 clear hv
 go_enter Tryz.func41, Tryz.ntmps41
 go_wp2_with fail
 refine (noNumber_any s hs w).mono ?_
 rintro e w1 ⟨rfl, hw⟩
 rw [hb]
 go_wp2_with fail
 refine (hat w1).mono ?_
 rintro e w2 ⟨rfl, t, rfl⟩
 go_wp2_with fail
 go_ret
 exact ⟨rfl, hw.trans (bytesW_ext _ _ _)⟩
theorem number_no (s : List UInt8) (hs : s.length ≤ 5000) (hn : ¬ 0 ≤ numR s) (w : World) :
  Calls Tryz.prog 41 #[tx s] w fun e w' => e = left 1 ∧ Ext w w' := by
 have hb : noNum s = true := by rw [noNum_eq]; simp; omega
 go_enter Tryz.func41, Tryz.ntmps41
 go_wp2_with fail
 refine (noNumber_any s hs w).mono ?_
 rintro e w1 ⟨rfl, hw⟩
 rw [hb]
 go_wp2_with fail
 refine (leave_no 1 (by decide) w1).mono ?_
 rintro e w2 ⟨rfl, rfl⟩
 go_wp2_with fail
 exact ⟨rfl, rfl, hw⟩
theorem str_at (s : List UInt8) (k : Nat) (h : k < s.length) : (⟨s.toArray⟩ : ByteArray)[k]'(by simpa [ByteArray.size] using h) = s[k] := rfl
theorem all_take (s : List UInt8) (k : Nat) (h : k < s.length) (h1 : (s.take k).all isDig = true) (h2 : isDig s[k] = true) : (s.take (k + 1)).all isDig = true := by
 rw [List.take_succ_eq_append_getElem h, List.all_append, h1, List.all_cons, h2]; rfl
theorem not_all (s : List UInt8) (k : Nat) (h : k < s.length) (h2 : isDig s[k] = false) : s.all isDig = false := by
 rw [List.all_eq_false]
 exact ⟨s[k], List.getElem_mem h, by simp [h2]⟩
theorem num_any (s : List UInt8) (hs : s.length ≤ maxLen) (w : World) :
  Calls Tryz.prog 28 #[tx s] w fun e w' => e = .returned (.int .i64 (numR s)) ∧ Ext w w' := by
 unfold maxLen at hs
 by_cases hr : 1 ≤ s.length ∧ s.length ≤ 6
 ·have hwi : wi s.length 1 6 = true := by unfold wi; simp; omega
  have h18 : ∀ k, Hid ((s.take k).all isDig = true) → valOf (s.take k) < 1000000 := fun k h => by
   have h1 := valOf_lt _ h.out
   have h2 : 10 ^ (s.take k).length ≤ 10 ^ 6 := Nat.pow_le_pow_right (by omega) (by rw [List.length_take]; omega)
   omega
  go_enter Tryz.func28, Tryz.ntmps28
  go_wp2_with fail
  refine (within_any _ _ _ _).mono ?_
  rintro e w1 ⟨rfl, rfl⟩
  go_wp2_with fail
  go_loopw [3, 4] (fun n i wr => ∃ k : Nat, k ≤ s.length ∧ i = .int .i64 k ∧ n = .int .i64 (valOf (s.take k) : Nat) ∧ Hid ((s.take k).all isDig = true) ∧ wr = w1) (fun _ i _ => s.length - (intOf i).toNat)
  case atStart => exact ⟨0, Nat.zero_le _, rfl, rfl, rfl, rfl⟩
  case round =>
   obtain ⟨k, hk, rfl, rfl, HD, rfl⟩ := hrel
   have hv := h18 k HD
   by_cases hlt : k < s.length
   ·have hi : (k : Int) < (s.length : Int) := by omega
    have HT : Hid (valOf (s.take (k + 1)) = 10 * valOf (s.take k) + (((⟨s.toArray⟩ : ByteArray)[k]'(by simpa [ByteArray.size] using hlt)).toNat - 48)) := valOf_take s k hlt
    by_cases h1 : (((⟨s.toArray⟩ : ByteArray)[k]'(by simpa [ByteArray.size] using hlt)).toNat : Int) < 48
    ·have HN : Hid (numR s = -1) := by
      have : s.all isDig = false := not_all s k hlt (by unfold isDig; rw [str_at s k hlt] at h1; simp; omega)
      show _ = _
      unfold numR; rw [if_neg (by rw [this]; simp)]
     go_wp2_with fail
     go_ret
     exact ⟨by rw [HN.out]; rfl, Ext.refl _⟩
    ·by_cases h2 : (57 : Int) < (((⟨s.toArray⟩ : ByteArray)[k]'(by simpa [ByteArray.size] using hlt)).toNat : Int)
     ·have HN : Hid (numR s = -1) := by
       have : s.all isDig = false := not_all s k hlt (by unfold isDig; rw [str_at s k hlt] at h2; simp; omega)
       show _ = _
       unfold numR; rw [if_neg (by rw [this]; simp)]
      go_wp2_with fail
      go_ret
      exact ⟨by rw [HN.out]; rfl, Ext.refl _⟩
     ·have HD2 : Hid ((s.take (k + 1)).all isDig = true) := all_take s k hlt HD.out (by unfold isDig; rw [str_at s k hlt] at h1 h2; simp; omega)
      go_wp2_with fail
      go_roundw
      case rel =>
       refine ⟨k + 1, by omega, by go_num, ?_, HD2, by trivial⟩
       congr 1
       rw [HT.out]
       omega
      case measure => simp [intOf]; omega
   ·obtain rfl : k = s.length := by omega
    rw [List.take_length] at HD hv ⊢
    have hl := digits_len (valOf s)
    go_wp2_with fail
    refine (digits_any (valOf s) (by omega) _).mono ?_
    rintro e w2 ⟨rfl, hw⟩
    by_cases hq : digitsR (valOf s) = s
    ·have HN : Hid (numR s = (valOf s : Nat)) := by
      show _ = _
      unfold numR; rw [if_pos ⟨hr.1, hr.2, HD.out, hq⟩]
     rw [hq]
     go_wp2_with fail
     go_ret
     exact ⟨by rw [HN.out]; rfl, hw⟩
    ·have HN : Hid (numR s = -1) := by
      show _ = _
      unfold numR; rw [if_neg (fun x => hq x.2.2.2)]
     have hne : (digitsR (valOf s) == s) = false := by simp [hq]
     clear hq
     go_wp2_with fail
     go_ret
     exact ⟨by rw [HN.out]; rfl, hw⟩
 ·have hwi : wi s.length 1 6 = false := by unfold wi; simp; omega
  have HN : Hid (numR s = -1) := by
   show _ = _
   unfold numR; rw [if_neg (fun x => hr ⟨x.1, x.2.1⟩)]
  go_enter Tryz.func28, Tryz.ntmps28
  go_wp2_with fail
  refine (within_any _ _ _ _).mono ?_
  rintro e w1 ⟨rfl, rfl⟩
  go_wp2_with fail
  go_ret
  exact ⟨by rw [HN.out]; rfl, Ext.refl _⟩
theorem str_cut (s : List UInt8) (i j : Nat) : (⟨s.toArray⟩ : ByteArray).extract i j = ⟨((s.take j).drop i).toArray⟩ := by
 apply ByteArray.ext
 apply Array.toList_inj.1
 show ((⟨s.toArray⟩ : ByteArray).extract i j).data.toList = _
 rw [Go.Lib.extract_data]
 show (s.drop i).take (j - i) = (s.take j).drop i
 rw [List.drop_take]
theorem infoStr : (Tryz.prog.info? 9).map (fun i => (i.zero, i.size, i.bytes)) = some (some (.string ⟨#[]⟩), 1, 16) := by kernel_rfl
def tvs (xs : List (List UInt8)) : List Value := xs.map tx
theorem tvs_snoc (xs : List (List UInt8)) (x : List UInt8) : tvs (xs ++ [x]) = tvs xs ++ [tx x] := by simp [tvs]
theorem split_any (s : List UInt8) (hs : s.length ≤ 4096) (w : World) :
  Calls Tryz.prog 27 #[tx s] w fun e w' => Ext w w' ∧ ∃ v, e = .returned v ∧ w'.ownsRow w.heap.size 9 1 v (wordsR s).length (tvs (wordsR s)) := by
 obtain ⟨i0, hi, hz0, hz1, hz2⟩ := info_parts infoStr
 have HI := (show Hid _ from hi)
 have Z0 := (show Hid _ from hz0)
 have Z1 := (show Hid _ from hz1)
 have Z2 := (show Hid _ from hz2)
 clear hi hz0 hz1 hz2
 have HS0 : Hid (wordsR s = [] ++ joinHead ((s.take 0).drop 0) (splitAt' 32 (s.drop 0))) := by show _ = _; rw [List.take_zero, List.drop_nil, List.drop_zero, List.nil_append, joinHead_nil (splitAt_ne 32 s)]; rfl
 go_enter Tryz.func27, Tryz.ntmps27
 go_wp2_with fail
 go_loopw [3, 4, 5] (fun v f i wr => ∃ (k m : Nat) (done : List (List UInt8)), k ≤ s.length + 1 ∧ i = .int .i64 k ∧ f = .int .i64 m ∧ Ext w wr ∧ done.length ≤ k ∧ wr.ownsRow w.heap.size 9 1 v done.length (tvs done) ∧ ((k ≤ s.length ∧ m ≤ k ∧ Hid (wordsR s = done ++ joinHead ((s.take k).drop m) (splitAt' 32 (s.drop k)))) ∨ (k = s.length + 1 ∧ Hid (wordsR s = done)))) (fun _ _ i _ => s.length + 1 - (intOf i).toNat)
 case atStart => exact ⟨0, 0, [], by omega, rfl, rfl, Ext.refl w, Nat.le_refl _, World.ownsRow_nil _ _ _ _, Or.inl ⟨Nat.zero_le _, Nat.le_refl _, HS0⟩⟩
 case round =>
  obtain ⟨k, m, done, hk, rfl, rfl, hE, hd, hown, hc | hc⟩ := hrel
  ·obtain ⟨hkl, hmk, HW⟩ := hc
   obtain ⟨sa, sm, sc, rfl⟩ := own_slice hown
   obtain rfl := own_len hown
   have HO := (show Hid (wr.ownsRow w.heap.size 9 1 (.slice sa done.length sc) done.length (tvs done)) from hown)
   have HC := (show Hid ((⟨s.toArray⟩ : ByteArray).extract m k = ⟨((s.take k).drop m).toArray⟩) from str_cut s m k)
   clear hown
   by_cases hlt : k < s.length
   ·have hi2 : (k : Int) ≤ (s.length : Int) := by omega
    have hi3 : ((k : Int) == (s.length : Int)) = false := by simp; omega
    by_cases hb : (((⟨s.toArray⟩ : ByteArray)[k]'(by simpa [ByteArray.size] using hlt)).toNat : Int) = 32
    ·have HN : Hid (wordsR s = (done ++ [(s.take k).drop m]) ++ joinHead ((s.take (k + 1)).drop (k + 1)) (splitAt' 32 (s.drop (k + 1)))) := by
      have h32 : s[k] = 32 := by
       rw [str_at s k hlt] at hb
       exact UInt8.toNat_inj.1 (by have : (32 : UInt8).toNat = 32 := rfl; omega)
      show _ = _
      rw [HW.out, List.drop_eq_getElem_cons hlt, split_at 32 _ h32, List.drop_of_length_le (l := s.take (k + 1)) (by rw [List.length_take]; omega), joinHead_nil (splitAt_ne 32 _)]
      simp
     go_wp2_with (at_builtin; refine wpList_append_lies _ rfl _ _ 29 rfl w.heap.size 9 i0 (.string ⟨#[]⟩) 1 16 Tryz.underlying29 HI.out Z0.out Z1.out Z2.out rfl (by decide) (.slice sa done.length sc) done.length (tvs done) rfl (own_ext HO.out ((Ext.refl wr).alloc _)) ⟨wr.heap.size, 0, none⟩ 1 1 [.string ((⟨s.toArray⟩ : ByteArray).extract m k)] rfl rfl (cells_new _ [.string ((⟨s.toArray⟩ : ByteArray).extract m k)] _ _ rfl) (fun x hx => by simp at hx; subst hx; rfl) (by decide) (by unfold maxLen; omega) (by omega) (by have := hE.size; simp; omega) _ rfl ?_; intro g cap' w3 hown' hgrow hg hgl)
     have hE3 : Ext w w3 := (hE.alloc _).grown (own_ext HO.out ((Ext.refl wr).alloc _)) hgrow
     rw [HC.out] at hown'
     refine ⟨⟨k + 1, k + 1, done ++ [(s.take k).drop m], by omega, by go_num, by go_num, hE3, by rw [List.length_append, List.length_singleton]; omega, ?_, Or.inl ⟨by omega, Nat.le_refl _, HN⟩⟩, by simp [intOf]; omega⟩
     rw [tvs_snoc, List.length_append, List.length_singleton]
     exact hown'
    ·have HN : Hid (wordsR s = done ++ joinHead ((s.take (k + 1)).drop m) (splitAt' 32 (s.drop (k + 1)))) := by
      have h32 : s[k] ≠ 32 := fun e => hb (by rw [str_at s k hlt, e]; rfl)
      show _ = _
      rw [HW.out, List.drop_eq_getElem_cons hlt, split_on 32 _ h32, List.take_succ_eq_append_getElem hlt, List.drop_append_of_le_length (by rw [List.length_take]; omega)]
     have hb2 : ((((⟨s.toArray⟩ : ByteArray)[k]'(by simpa [ByteArray.size] using hlt)).toNat : Int) == 32) = false := by simpa using hb
     go_wp2_with fail
     go_roundw
     case rel => exact ⟨k + 1, m, done, by omega, by go_num, rfl, hE, by omega, HO.out, Or.inl ⟨by omega, by omega, HN⟩⟩
     case measure => simp [intOf]; omega
   ·obtain rfl : k = s.length := by omega
    have HN : Hid (wordsR s = done ++ [(s.take s.length).drop m]) := by
     show _ = _
     rw [HW.out, List.drop_length, split_end]
    go_wp2_with (at_builtin; refine wpList_append_lies _ rfl _ _ 29 rfl w.heap.size 9 i0 (.string ⟨#[]⟩) 1 16 Tryz.underlying29 HI.out Z0.out Z1.out Z2.out rfl (by decide) (.slice sa done.length sc) done.length (tvs done) rfl (own_ext HO.out ((Ext.refl wr).alloc _)) ⟨wr.heap.size, 0, none⟩ 1 1 [.string ((⟨s.toArray⟩ : ByteArray).extract m s.length)] rfl rfl (cells_new _ [.string ((⟨s.toArray⟩ : ByteArray).extract m s.length)] _ _ rfl) (fun x hx => by simp at hx; subst hx; rfl) (by decide) (by unfold maxLen; omega) (by omega) (by have := hE.size; simp; omega) _ rfl ?_; intro g cap' w3 hown' hgrow hg hgl)
    have hE3 : Ext w w3 := (hE.alloc _).grown (own_ext HO.out ((Ext.refl wr).alloc _)) hgrow
    rw [HC.out] at hown'
    refine ⟨⟨s.length + 1, s.length + 1, done ++ [(s.take s.length).drop m], by omega, by go_num, by go_num, hE3, by rw [List.length_append, List.length_singleton]; omega, ?_, Or.inr ⟨rfl, HN⟩⟩, by simp [intOf]⟩
    rw [tvs_snoc, List.length_append, List.length_singleton]
    exact hown'
  ·obtain ⟨rfl, HW⟩ := hc
   have hi4 : ¬ ((s.length : Int) + 1 ≤ (s.length : Int)) := by omega
   go_wp2_with fail
   go_ret
   exact ⟨hE, _, rfl, by rw [HW.out]; exact hown⟩
def pgTo (x0 x1 x2 _x3 x4 x5 x6 _x7 x8 x9 x10 _x11 : Int) (k : Nat) : Array Value :=
 if k = 0 then #[.int .i64 0, .int .i64 0, .int .i64 0, .int .i64 0, .int .i64 0, .int .i64 0, .int .i64 0, .int .i64 0, .int .i64 0] else if k = 1 then #[.int .i64 x0, .int .i64 x1, .int .i64 x2, .int .i64 0, .int .i64 0, .int .i64 0, .int .i64 0, .int .i64 0, .int .i64 0] else if k = 2 then #[.int .i64 x0, .int .i64 x1, .int .i64 x2, .int .i64 x4, .int .i64 x5, .int .i64 x6, .int .i64 0, .int .i64 0, .int .i64 0] else #[.int .i64 x0, .int .i64 x1, .int .i64 x2, .int .i64 x4, .int .i64 x5, .int .i64 x6, .int .i64 x8, .int .i64 x9, .int .i64 x10]
theorem cells_pgs (x0 x1 x2 x3 x4 x5 x6 x7 x8 x9 x10 x11 : Int) (w : World) :
  Calls Tryz.prog 24 #[.agg #[.int .i64 x0, .int .i64 x1, .int .i64 x2, .int .i64 x3, .int .i64 x4, .int .i64 x5, .int .i64 x6, .int .i64 x7, .int .i64 x8, .int .i64 x9, .int .i64 x10, .int .i64 x11]] w fun e w' => e = .returned (.agg #[.int .i64 x0, .int .i64 x1, .int .i64 x2, .int .i64 x4, .int .i64 x5, .int .i64 x6, .int .i64 x8, .int .i64 x9, .int .i64 x10]) ∧ Ext w w' := by
 have E0 := (((Ext.refl w).alloc (.cells #[.int .i64 x0, .int .i64 x1, .int .i64 x2, .int .i64 x3, .int .i64 x4, .int .i64 x5, .int .i64 x6, .int .i64 x7, .int .i64 x8, .int .i64 x9, .int .i64 x10, .int .i64 x11] 35)).alloc (.cells #[.int .i64 0, .int .i64 0, .int .i64 0, .int .i64 0, .int .i64 0, .int .i64 0, .int .i64 0, .int .i64 0, .int .i64 0] 55)).alloc (.cells #[.int .i64 0, .int .i64 0, .int .i64 0, .int .i64 0, .int .i64 0, .int .i64 0, .int .i64 0, .int .i64 0, .int .i64 0] 55)
 have A0 := ((Blk.new w w.heap.size #[.int .i64 x0, .int .i64 x1, .int .i64 x2, .int .i64 x3, .int .i64 x4, .int .i64 x5, .int .i64 x6, .int .i64 x7, .int .i64 x8, .int .i64 x9, .int .i64 x10, .int .i64 x11] 35 rfl).alloc (.cells #[.int .i64 0, .int .i64 0, .int .i64 0, .int .i64 0, .int .i64 0, .int .i64 0, .int .i64 0, .int .i64 0, .int .i64 0] 55)).alloc (.cells #[.int .i64 0, .int .i64 0, .int .i64 0, .int .i64 0, .int .i64 0, .int .i64 0, .int .i64 0, .int .i64 0, .int .i64 0] 55)
 have R0 := (Blk.new (w.alloc (.cells #[.int .i64 x0, .int .i64 x1, .int .i64 x2, .int .i64 x3, .int .i64 x4, .int .i64 x5, .int .i64 x6, .int .i64 x7, .int .i64 x8, .int .i64 x9, .int .i64 x10, .int .i64 x11] 35)) (w.heap.size + 1) #[.int .i64 0, .int .i64 0, .int .i64 0, .int .i64 0, .int .i64 0, .int .i64 0, .int .i64 0, .int .i64 0, .int .i64 0] 55 (by simp)).alloc (.cells #[.int .i64 0, .int .i64 0, .int .i64 0, .int .i64 0, .int .i64 0, .int .i64 0, .int .i64 0, .int .i64 0, .int .i64 0] 55)
 have O0 := Blk.new ((w.alloc (.cells #[.int .i64 x0, .int .i64 x1, .int .i64 x2, .int .i64 x3, .int .i64 x4, .int .i64 x5, .int .i64 x6, .int .i64 x7, .int .i64 x8, .int .i64 x9, .int .i64 x10, .int .i64 x11] 35)).alloc (.cells #[.int .i64 0, .int .i64 0, .int .i64 0, .int .i64 0, .int .i64 0, .int .i64 0, .int .i64 0, .int .i64 0, .int .i64 0] 55)) (w.heap.size + 1 + 1) #[.int .i64 0, .int .i64 0, .int .i64 0, .int .i64 0, .int .i64 0, .int .i64 0, .int .i64 0, .int .i64 0, .int .i64 0] 55 (by simp)
 go_enter Tryz.func24, Tryz.ntmps24
 go_wp2_with fail
 go_loopw [4] (fun i wr => ∃ k : Nat, k ≤ 3 ∧ i = .int .i64 k ∧ Ext w wr ∧ Blk wr w.heap.size #[.int .i64 x0, .int .i64 x1, .int .i64 x2, .int .i64 x3, .int .i64 x4, .int .i64 x5, .int .i64 x6, .int .i64 x7, .int .i64 x8, .int .i64 x9, .int .i64 x10, .int .i64 x11] 35 ∧ Blk wr (w.heap.size + 1) #[.int .i64 0, .int .i64 0, .int .i64 0, .int .i64 0, .int .i64 0, .int .i64 0, .int .i64 0, .int .i64 0, .int .i64 0] 55 ∧ Blk wr (w.heap.size + 1 + 1) (pgTo x0 x1 x2 x3 x4 x5 x6 x7 x8 x9 x10 x11 k) 55) (fun i _ => 3 - (intOf i).toNat)
 case atStart => exact ⟨0, by omega, rfl, E0, A0, R0, O0⟩
 case round =>
  obtain ⟨k, hk, rfl, hE, A, R, O⟩ := hrel
  clear E0 A0 R0 O0
  have a_ := A.cell
  obtain rfl | rfl | rfl | rfl : k = 0 ∨ k = 1 ∨ k = 2 ∨ k = 3 := by omega
  ·replace O : Blk wr (w.heap.size + 1 + 1) #[.int .i64 0, .int .i64 0, .int .i64 0, .int .i64 0, .int .i64 0, .int .i64 0, .int .i64 0, .int .i64 0, .int .i64 0] 55 := O
   have o_ := O.cell
   have f_ := O.fr
   have O2 : Blk (((wr.setCell ⟨w.heap.size + 1 + 1, 0, none⟩ (.int .i64 x0)).setCell ⟨w.heap.size + 1 + 1, 1, none⟩ (.int .i64 x1)).setCell ⟨w.heap.size + 1 + 1, 2, none⟩ (.int .i64 x2)) (w.heap.size + 1 + 1) #[.int .i64 x0, .int .i64 x1, .int .i64 x2, .int .i64 0, .int .i64 0, .int .i64 0, .int .i64 0, .int .i64 0, .int .i64 0] 55 := by have := ((O.set 0 (.int .i64 x0)).set 1 (.int .i64 x1)).set 2 (.int .i64 x2); simpa using this
   have A2 := ((A.other ⟨w.heap.size + 1 + 1, 0, none⟩ (.int .i64 x0) (by show w.heap.size ≠ _; simp; omega)).other ⟨w.heap.size + 1 + 1, 1, none⟩ (.int .i64 x1) (by show w.heap.size ≠ _; simp; omega)).other ⟨w.heap.size + 1 + 1, 2, none⟩ (.int .i64 x2) (by show w.heap.size ≠ _; simp; omega)
   have R2 := ((R.other ⟨w.heap.size + 1 + 1, 0, none⟩ (.int .i64 x0) (by simp)).other ⟨w.heap.size + 1 + 1, 1, none⟩ (.int .i64 x1) (by simp)).other ⟨w.heap.size + 1 + 1, 2, none⟩ (.int .i64 x2) (by simp)
   have E2 := ((hE.setCell (p := ⟨w.heap.size + 1 + 1, 0, none⟩) (by show w.heap.size ≤ _; simp; omega) (.int .i64 x0)).setCell (p := ⟨w.heap.size + 1 + 1, 1, none⟩) (by show w.heap.size ≤ _; simp; omega) (.int .i64 x1)).setCell (p := ⟨w.heap.size + 1 + 1, 2, none⟩) (by show w.heap.size ≤ _; simp; omega) (.int .i64 x2)
   clear A R O hE
   go_wp2_with fail
   go_roundw
   case rel => exact ⟨1, by omega, by go_num, E2, A2, R2, O2⟩
   case measure => simp [intOf]
  ·replace O : Blk wr (w.heap.size + 1 + 1) #[.int .i64 x0, .int .i64 x1, .int .i64 x2, .int .i64 0, .int .i64 0, .int .i64 0, .int .i64 0, .int .i64 0, .int .i64 0] 55 := O
   have o_ := O.cell
   have f_ := O.fr
   have O2 : Blk (((wr.setCell ⟨w.heap.size + 1 + 1, 3, none⟩ (.int .i64 x4)).setCell ⟨w.heap.size + 1 + 1, 4, none⟩ (.int .i64 x5)).setCell ⟨w.heap.size + 1 + 1, 5, none⟩ (.int .i64 x6)) (w.heap.size + 1 + 1) #[.int .i64 x0, .int .i64 x1, .int .i64 x2, .int .i64 x4, .int .i64 x5, .int .i64 x6, .int .i64 0, .int .i64 0, .int .i64 0] 55 := by have := ((O.set 3 (.int .i64 x4)).set 4 (.int .i64 x5)).set 5 (.int .i64 x6); simpa using this
   have A2 := ((A.other ⟨w.heap.size + 1 + 1, 3, none⟩ (.int .i64 x4) (by show w.heap.size ≠ _; simp; omega)).other ⟨w.heap.size + 1 + 1, 4, none⟩ (.int .i64 x5) (by show w.heap.size ≠ _; simp; omega)).other ⟨w.heap.size + 1 + 1, 5, none⟩ (.int .i64 x6) (by show w.heap.size ≠ _; simp; omega)
   have R2 := ((R.other ⟨w.heap.size + 1 + 1, 3, none⟩ (.int .i64 x4) (by simp)).other ⟨w.heap.size + 1 + 1, 4, none⟩ (.int .i64 x5) (by simp)).other ⟨w.heap.size + 1 + 1, 5, none⟩ (.int .i64 x6) (by simp)
   have E2 := ((hE.setCell (p := ⟨w.heap.size + 1 + 1, 3, none⟩) (by show w.heap.size ≤ _; simp; omega) (.int .i64 x4)).setCell (p := ⟨w.heap.size + 1 + 1, 4, none⟩) (by show w.heap.size ≤ _; simp; omega) (.int .i64 x5)).setCell (p := ⟨w.heap.size + 1 + 1, 5, none⟩) (by show w.heap.size ≤ _; simp; omega) (.int .i64 x6)
   clear A R O hE
   go_wp2_with fail
   go_roundw
   case rel => exact ⟨2, by omega, by go_num, E2, A2, R2, O2⟩
   case measure => simp [intOf]
  ·replace O : Blk wr (w.heap.size + 1 + 1) #[.int .i64 x0, .int .i64 x1, .int .i64 x2, .int .i64 x4, .int .i64 x5, .int .i64 x6, .int .i64 0, .int .i64 0, .int .i64 0] 55 := O
   have o_ := O.cell
   have f_ := O.fr
   have O2 : Blk (((wr.setCell ⟨w.heap.size + 1 + 1, 6, none⟩ (.int .i64 x8)).setCell ⟨w.heap.size + 1 + 1, 7, none⟩ (.int .i64 x9)).setCell ⟨w.heap.size + 1 + 1, 8, none⟩ (.int .i64 x10)) (w.heap.size + 1 + 1) #[.int .i64 x0, .int .i64 x1, .int .i64 x2, .int .i64 x4, .int .i64 x5, .int .i64 x6, .int .i64 x8, .int .i64 x9, .int .i64 x10] 55 := by have := ((O.set 6 (.int .i64 x8)).set 7 (.int .i64 x9)).set 8 (.int .i64 x10); simpa using this
   have A2 := ((A.other ⟨w.heap.size + 1 + 1, 6, none⟩ (.int .i64 x8) (by show w.heap.size ≠ _; simp; omega)).other ⟨w.heap.size + 1 + 1, 7, none⟩ (.int .i64 x9) (by show w.heap.size ≠ _; simp; omega)).other ⟨w.heap.size + 1 + 1, 8, none⟩ (.int .i64 x10) (by show w.heap.size ≠ _; simp; omega)
   have R2 := ((R.other ⟨w.heap.size + 1 + 1, 6, none⟩ (.int .i64 x8) (by simp)).other ⟨w.heap.size + 1 + 1, 7, none⟩ (.int .i64 x9) (by simp)).other ⟨w.heap.size + 1 + 1, 8, none⟩ (.int .i64 x10) (by simp)
   have E2 := ((hE.setCell (p := ⟨w.heap.size + 1 + 1, 6, none⟩) (by show w.heap.size ≤ _; simp; omega) (.int .i64 x8)).setCell (p := ⟨w.heap.size + 1 + 1, 7, none⟩) (by show w.heap.size ≤ _; simp; omega) (.int .i64 x9)).setCell (p := ⟨w.heap.size + 1 + 1, 8, none⟩) (by show w.heap.size ≤ _; simp; omega) (.int .i64 x10)
   clear A R O hE
   go_wp2_with fail
   go_roundw
   case rel => exact ⟨3, by omega, by go_num, E2, A2, R2, O2⟩
   case measure => simp [intOf]
  ·replace O : Blk wr (w.heap.size + 1 + 1) #[.int .i64 x0, .int .i64 x1, .int .i64 x2, .int .i64 x4, .int .i64 x5, .int .i64 x6, .int .i64 x8, .int .i64 x9, .int .i64 x10] 55 := O
   have o_ := O.cell
   have r_ := R.cell
   have f_ := R.fr
   have R2 : Blk (((((((((wr.setCell ⟨w.heap.size + 1, 0, none⟩ (.int .i64 x0)).setCell ⟨w.heap.size + 1, 1, none⟩ (.int .i64 x1)).setCell ⟨w.heap.size + 1, 2, none⟩ (.int .i64 x2)).setCell ⟨w.heap.size + 1, 3, none⟩ (.int .i64 x4)).setCell ⟨w.heap.size + 1, 4, none⟩ (.int .i64 x5)).setCell ⟨w.heap.size + 1, 5, none⟩ (.int .i64 x6)).setCell ⟨w.heap.size + 1, 6, none⟩ (.int .i64 x8)).setCell ⟨w.heap.size + 1, 7, none⟩ (.int .i64 x9)).setCell ⟨w.heap.size + 1, 8, none⟩ (.int .i64 x10)) (w.heap.size + 1) #[.int .i64 x0, .int .i64 x1, .int .i64 x2, .int .i64 x4, .int .i64 x5, .int .i64 x6, .int .i64 x8, .int .i64 x9, .int .i64 x10] 55 := by have := (((((((((R.set 0 (.int .i64 x0)).set 1 (.int .i64 x1)).set 2 (.int .i64 x2)).set 3 (.int .i64 x4)).set 4 (.int .i64 x5)).set 5 (.int .i64 x6)).set 6 (.int .i64 x8)).set 7 (.int .i64 x9)).set 8 (.int .i64 x10)); simpa using this
   have r2 := R2.cell
   have E2 := (((((((((hE.setCell (p := ⟨w.heap.size + 1, 0, none⟩) (by show w.heap.size ≤ _; simp) (.int .i64 x0)).setCell (p := ⟨w.heap.size + 1, 1, none⟩) (by show w.heap.size ≤ _; simp) (.int .i64 x1)).setCell (p := ⟨w.heap.size + 1, 2, none⟩) (by show w.heap.size ≤ _; simp) (.int .i64 x2)).setCell (p := ⟨w.heap.size + 1, 3, none⟩) (by show w.heap.size ≤ _; simp) (.int .i64 x4)).setCell (p := ⟨w.heap.size + 1, 4, none⟩) (by show w.heap.size ≤ _; simp) (.int .i64 x5)).setCell (p := ⟨w.heap.size + 1, 5, none⟩) (by show w.heap.size ≤ _; simp) (.int .i64 x6)).setCell (p := ⟨w.heap.size + 1, 6, none⟩) (by show w.heap.size ≤ _; simp) (.int .i64 x8)).setCell (p := ⟨w.heap.size + 1, 7, none⟩) (by show w.heap.size ≤ _; simp) (.int .i64 x9)).setCell (p := ⟨w.heap.size + 1, 8, none⟩) (by show w.heap.size ≤ _; simp) (.int .i64 x10))
   clear A R O hE
   go_wp2_with fail
   refine bodyPost_ret (v := .agg #[.int .i64 x0, .int .i64 x1, .int .i64 x2, .int .i64 x4, .int .i64 x5, .int .i64 x6, .int .i64 x8, .int .i64 x9, .int .i64 x10]) (by simp [results, Tryz.results24, go_sem, r2]) rfl ⟨rfl, E2⟩
def preL (xs : List Int) : List UInt8 := xs.flatMap fun n => 32 :: digitsR n.toNat
theorem pre_take (xs : List Int) (k : Nat) (h : k < xs.length) : preL (xs.take (k + 1)) = preL (xs.take k) ++ [32] ++ digitsR xs[k].toNat := by
 unfold preL
 rw [List.take_succ_eq_append_getElem h, List.flatMap_append]
 simp
theorem listed_pre : ∀ (xs : List Int), xs ≠ [] → preL xs = 32 :: listedR xs
 | [], h => absurd rfl h
 | [n], _ => by simp [preL, listedR]
 | n :: m :: ns, _ => by
  have := listed_pre (m :: ns) (by simp)
  unfold preL at this ⊢
  rw [List.flatMap_cons, this, listedR]
  simp
theorem pre_len (xs : List Int) : (preL xs).length ≤ 21 * xs.length := by
 induction xs with
 | nil => exact Nat.le_refl _
 | cons n ns ih =>
  unfold preL at ih ⊢
  rw [List.flatMap_cons, List.length_append, List.length_cons, List.length_cons]
  have := digits_len n.toNat
  omega
theorem str_drop1 (b : UInt8) (s : List UInt8) : (⟨(b :: s).toArray⟩ : ByteArray).extract 1 (s.length + 1) = ⟨s.toArray⟩ := by
 apply ByteArray.ext
 simp
theorem listed_any (xs : List Int) (hx : xs.length = 9) (hb : ∀ n ∈ xs, 0 ≤ n ∧ n < 1000000) (w : World) :
  Calls Tryz.prog 23 #[.agg (ints xs)] w fun e w' => e = .returned (tx (listedR xs)) ∧ Ext w w' := by
 have E0 := (Ext.refl w).alloc (.cells (ints xs) 55)
 have A0 := Blk.new w w.heap.size (ints xs) 55 rfl
 have hsz : (ints xs).size = 9 := by simp [ints, hx]
 go_enter Tryz.func23, Tryz.ntmps23
 have HB : Hid (∀ (k : Nat) (h : k < xs.length), 0 ≤ xs[k] ∧ xs[k] < 1000000) := fun k h => hb _ (List.getElem_mem h)
 clear hb
 go_wp2_with fail
 go_loopw [3, 4, 5] (fun t i _ wr => ∃ k : Nat, k ≤ 3 ∧ i = .int .i64 k ∧ t = tx (preL (xs.take (k * 3))) ∧ Ext w wr ∧ Blk wr w.heap.size (ints xs) 55) (fun _ i _ _ => 3 - (intOf i).toNat)
 case atStart => exact ⟨0, by omega, rfl, rfl, E0, A0⟩
 case round =>
  obtain ⟨k, hk, rfl, rfl, hE, A⟩ := hrel
  by_cases hlt : k < 3
  ·have hki : (k : Int) < 3 := by omega
   go_wp2_with fail
   go_loopw [3, 5] (fun t i wq => ∃ c : Nat, c ≤ 3 ∧ i = .int .i64 c ∧ t = tx (preL (xs.take (k * 3 + c))) ∧ Ext w wq ∧ Blk wq w.heap.size (ints xs) 55) (fun _ i _ => 3 - (intOf i).toNat)
   case atStart => exact ⟨0, by omega, rfl, rfl, hE, A⟩
   case round =>
    obtain ⟨c, hc, rfl, rfl, hE2, A2⟩ := hrel
    by_cases hlc : c < 3
    ·have hci : (c : Int) < 3 := by omega
     have hkc : k * 3 + c < xs.length := by omega
     obtain ⟨hn0, hn1⟩ := HB.out (k * 3 + c) hkc
     have HT := (show Hid (preL (xs.take (k * 3 + c + 1)) = preL (xs.take (k * 3 + c)) ++ [32] ++ digitsR xs[k * 3 + c].toNat) from pre_take xs (k * 3 + c) hkc)
     have hcell : wr.cell? ⟨w.heap.size, k * 3 + c, none⟩ = some (.int .i64 xs[k * 3 + c]) := by rw [A2.cell, ints_get, List.getElem?_eq_getElem hkc]; rfl
     have hpl := pre_len (xs.take (k * 3 + c))
     rw [List.length_take] at hpl
     have hdl := digits_len xs[k * 3 + c].toNat
     generalize xs[k * 3 + c] = n at *
     obtain ⟨m, rfl⟩ : ∃ m : Nat, n = (m : Int) := ⟨n.toNat, by omega⟩
     rw [Int.toNat_natCast] at HT hdl
     generalize preL (xs.take (k * 3 + c)) = pre at *
     go_wp2_with fail
     refine (digits_any m (by omega) _).mono ?_
     rintro e w5 ⟨rfl, hw⟩
     have hE5 := hE2.trans hw
     have A5 := A2.ext hw
     have HSz : Hid ((Value.string ((⟨pre.toArray⟩ : ByteArray) ++ ⟨[32].toArray⟩ ++ ⟨(digitsR m).toArray⟩)) = tx (pre ++ [32] ++ digitsR m)) := by show _ = _; rw [str_add, str_add]
     go_wp2_with fail
     go_roundw
     case rel => exact ⟨c + 1, by omega, by go_num, by rw [show k * 3 + (c + 1) = k * 3 + c + 1 from rfl, HT.out]; exact HSz.out, hE5, A5⟩
     case measure => simp [intOf]; omega
    ·obtain rfl : c = 3 := by omega
     go_wp2_with fail
     go_roundw
     case rel => exact ⟨k + 1, by omega, by go_num, by rw [show (k + 1) * 3 = k * 3 + 3 by omega], hE2, A2⟩
     case measure => simp [intOf]; omega
  ·obtain rfl : k = 3 := by omega
   have HF : Hid (preL xs = 32 :: listedR xs) := listed_pre xs (by intro e; rw [e] at hx; simp at hx)
   rw [show xs.take (3 * 3) = xs from List.take_of_length_le (by omega), HF.out]
   have hpl := pre_len xs
   rw [HF.out] at hpl
   have HX := (show Hid ((⟨(32 :: listedR xs).toArray⟩ : ByteArray).extract 1 ((listedR xs).length + 1) = ⟨(listedR xs).toArray⟩) from str_drop1 32 (listedR xs))
   go_wp2_with fail
   go_ret
   exact ⟨congrArg (fun z => Ending.returned (Value.string z)) HX.out, hE⟩
end Go.Proofs.YtibfgbmhmdggmaaGreatDoor.B
