/- The contract of the book's mayNotFollow: it is asked of records that are right by themselves, and answers just what the document says. -/
import Derived.Test.YtgojonhjhdbpkaaBook4
namespace Go.Proofs.Ytgojonhjhdbpkaa.B
set_option maxRecDepth 100000
open Go.ChangeShapes Go.WideShapes Go.ChangeAt Go.RowKit

set_option maxHeartbeats 400000 in
theorem may1 (s last : Int) (sv : Value) (r : Rc) (br bt : Nat) (w : World) (R : Blk w br r.cs 39) (T : Blk w bt #[.int .i64 s, .int .i64 last, sv] 75) :
    Calls Try.prog 96 #[.pointer (some ⟨br, 0, none⟩), .pointer (some ⟨bt, 0, none⟩)] w fun e w' => e = .returned (.bool (r.prev != last)) ∧ Ext w w' := by
  have c1 := R.cell
  have c2 := T.cell
  go_enter Try.func96, Try.ntmps96
  go_wp2_with fail
  go_ret
  exact ⟨rfl, Ext.refl w⟩
theorem may1_ans (s last : Int) (sv : Value) (r : Rc) (br bt : Nat) (w : World) (R : Blk w br r.cs 39) (T : Blk w bt #[.int .i64 s, .int .i64 last, sv] 75) : Ans 96 #[.pointer (some ⟨br, 0, none⟩), .pointer (some ⟨bt, 0, none⟩)] w (r.prev != last) :=
  ⟨fun w => callFunc_enter _ w Try.func96 (by kernel_rfl) (by kernel_rfl), fun w' h => may1 s last sv r br bt w' (R.ext h) (T.ext h)⟩

set_option maxHeartbeats 400000 in
theorem may2 (s last : Int) (a : Option Addr) (n cap : Nat) (r : Rc) (br bt : Nat) (w : World) (R : Blk w br r.cs 39) (T : Blk w bt #[.int .i64 s, .int .i64 last, .slice a n cap] 75) (hn : n ≤ 1000) (hk : r.kind = 1 ∨ r.kind = 2 ∨ r.kind = 3 ∨ r.kind = 4) :
    Calls Try.prog 97 #[.pointer (some ⟨bt, 0, none⟩), .pointer (some ⟨br, 0, none⟩)] w fun e w' => e = .returned (.bool (!allowsB s n r.kind)) ∧ Ext w w' := by
  have c1 := R.cell
  have c2 := T.cell
  have HK := (show Hid _ from hk)
  clear hk
  go_enter Try.func97, Try.ntmps97
  go_wp2_with fail
  refine (allows_any s last a n cap r.kind _ hn HK.out).mono ?_
  rintro e w1 ⟨rfl, hw1⟩
  go_wp2_with fail
  go_ret
  exact ⟨rfl, hw1⟩
theorem may2_ans (s last : Int) (a : Option Addr) (n cap : Nat) (r : Rc) (br bt : Nat) (w : World) (R : Blk w br r.cs 39) (T : Blk w bt #[.int .i64 s, .int .i64 last, .slice a n cap] 75) (hn : n ≤ 1000) (hk : r.kind = 1 ∨ r.kind = 2 ∨ r.kind = 3 ∨ r.kind = 4) : Ans 97 #[.pointer (some ⟨bt, 0, none⟩), .pointer (some ⟨br, 0, none⟩)] w (!allowsB s n r.kind) :=
  ⟨fun w => callFunc_enter _ w Try.func97 (by kernel_rfl) (by kernel_rfl), fun w' h => may2 s last a n cap r br bt w' (R.ext h) (T.ext h) hn hk⟩

set_option maxHeartbeats 400000 in
theorem may3 {base pb mt mh : Nat} {l : List Rc} {tx : List TxE} {ho : List ((Int × Int) × (Int × Int))} (r : Rc) (x : Int × Int) (br bb : Nat) (w : World) (h : BookOk w base pb mt mh l tx ho)
    (hx : lookP (ho.map hoEnt) (r.page, r.cell) (hoVal (0, 0)) = hoVal x) (R : Blk w br r.cs 39) (B : Blk w bb #[.pointer (some ⟨pb, 0, none⟩)] 63) (hf : turns r = true → 0 ≤ r.page ∧ r.page ≤ 2 ∧ 0 ≤ r.cell ∧ r.cell ≤ 2) :
    Calls Try.prog 99 #[.pointer (some ⟨br, 0, none⟩), .pointer (some ⟨bb, 0, none⟩)] w fun e w' => e = .returned (.bool (r.kind == 1 && clashB l r x)) ∧ Ext w w' := by
  have c1 := R.cell
  have c2 := B.cell
  have HX := (show Hid _ from hx)
  clear hx
  cases hk : (r.kind == 1)
  · clear hf
    go_enter Try.func99, Try.ntmps99
    go_wp2_with fail
    go_ret
    exact ⟨rfl, Ext.refl w⟩
  · obtain ⟨p0, p2, q0, q2⟩ := hf (by unfold turns; rw [hk]; rfl)
    clear hf
    go_enter Try.func99, Try.ntmps99
    go_wp2_with fail
    refine (clashes_any r x _ h HX.out p0 p2 q0 q2).mono ?_
    rintro e w1 ⟨rfl, hw1⟩
    go_wp2_with fail
    go_ret
    exact ⟨rfl, hw1⟩
theorem may3_ans {base pb mt mh : Nat} {l : List Rc} {tx : List TxE} {ho : List ((Int × Int) × (Int × Int))} (r : Rc) (x : Int × Int) (br bb : Nat) (w : World) (h : BookOk w base pb mt mh l tx ho)
    (hx : lookP (ho.map hoEnt) (r.page, r.cell) (hoVal (0, 0)) = hoVal x) (R : Blk w br r.cs 39) (B : Blk w bb #[.pointer (some ⟨pb, 0, none⟩)] 63) (hf : turns r = true → 0 ≤ r.page ∧ r.page ≤ 2 ∧ 0 ≤ r.cell ∧ r.cell ≤ 2) : Ans 99 #[.pointer (some ⟨br, 0, none⟩), .pointer (some ⟨bb, 0, none⟩)] w (r.kind == 1 && clashB l r x) :=
  ⟨fun w => callFunc_enter _ w Try.func99 (by kernel_rfl) (by kernel_rfl), fun w' e => may3 r x br bb w' (h.ext e) hx (R.ext e) (B.ext e) hf⟩

set_option maxHeartbeats 1000000 in
set_option maxRecDepth 100000 in
theorem may4 (s last : Int) (sv : Value) (st : List Rc) (base : Nat) (r : Rc) (br bt : Nat) (w : World) (R : Blk w br r.cs 39) (T : Blk w bt #[.int .i64 s, .int .i64 last, sv] 75) (ho : w.ownsRow base 39 8 sv st.length (flat st)) (hn : st.length ≤ 1000) :
    Calls Try.prog 101 #[.pointer (some ⟨br, 0, none⟩), .pointer (some ⟨bt, 0, none⟩)] w fun e w' => e = .returned (.bool (r.kind == 3 && !eqRc r (backB last st))) ∧ Ext w w' := by
  have c1 := R.cell
  have c2 := T.cell
  obtain ⟨a, m, cap, rfl⟩ : ∃ a m cap, sv = .slice a m cap := by
    rcases ho.2 with ⟨rfl, _⟩ | ⟨g, cap, cur, rfl, _⟩
    · exact ⟨none, 0, 0, rfl⟩
    · exact ⟨_, _, _, rfl⟩
  have HO := (show Hid (w.ownsRow base 39 8 (.slice a m cap) st.length (flat st)) from ho)
  clear ho
  have e1 := neq_rec r (backB last st)
  generalize hbk : backB last st = bk at *
  have HB := (show Hid _ from hbk)
  clear hbk
  cases hk : (r.kind == 3)
  · go_enter Try.func101, Try.ntmps101
    go_wp2_with fail
    refine wp_region_calm (by kernel_rfl) (by kernel_rfl) (fun F hF => ?_)
    have d1 := hF.cell R
    have d2 := hF.cell T
    repeat (go_big_quiet_step (fail))
    refine wpQuiet_nil ?_
    rintro _ ⟨v, rfl⟩
    go_wp2_with fail
    go_ret
    exact ⟨rfl, hF.ext v⟩
  · go_enter Try.func101, Try.ntmps101
    go_wp2_with fail
    refine wp_region_calm (by kernel_rfl) (by kernel_rfl) (fun F hF => ?_)
    have d1 := hF.cell R
    have d2 := hF.cell T
    have HC : Hid (∀ x, Calls Try.prog 102 #[txVal s last (.slice a m cap)] (F x) fun e w' => e = .returned (Rc.val bk) ∧ Ext (F x) w') := fun x => by have hh := back_any s last (.slice a m cap) st base (F x) (own_ext HO.out (hF.ext x)) hn; rw [HB.out] at hh; exact hh
    repeat (go_big_quiet_step ((go_at_call 102; exact hF.call (HC.out _))))
    refine wpQuiet_nil ?_
    rintro _ ⟨v, rfl⟩
    go_wp2_with fail
    go_ret
    exact ⟨rfl, hF.ext v⟩
theorem may4_ans (s last : Int) (sv : Value) (st : List Rc) (base : Nat) (r : Rc) (br bt : Nat) (w : World) (R : Blk w br r.cs 39) (T : Blk w bt #[.int .i64 s, .int .i64 last, sv] 75) (ho : w.ownsRow base 39 8 sv st.length (flat st)) (hn : st.length ≤ 1000) : Ans 101 #[.pointer (some ⟨br, 0, none⟩), .pointer (some ⟨bt, 0, none⟩)] w (r.kind == 3 && !eqRc r (backB last st)) :=
  ⟨fun w => callFunc_enter _ w Try.func101 (by kernel_rfl) (by kernel_rfl), fun w' e => may4 s last sv st base r br bt w' (R.ext e) (T.ext e) (own_ext ho e) hn⟩
end Go.Proofs.Ytgojonhjhdbpkaa.B
