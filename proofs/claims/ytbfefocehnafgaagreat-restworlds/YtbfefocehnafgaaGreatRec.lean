/- The contracts of package rec: what Check and Turns answer, whatever they are handed. -/
import Derived.Test.YtbfefocehnafgaaGreatPage
namespace Go.Proofs.YtbfefocehnafgaaGreat.B
set_option maxRecDepth 100000
open Go.ChangeShapes Go.WideShapes Go.ChangeAt Go.RowKit

abbrev Rc.cs (r : Rc) : Array Value := #[.int .i64 r.kind, .int .i64 r.txn, .int .i64 r.prev, .int .i64 r.page, .int .i64 r.cell, .int .i64 r.old, .int .i64 r.new, .int .i64 r.next]
/-- Does the record turn a cell? -/
def turns (r : Rc) : Bool := r.kind == 1 || r.kind == 3
def cellOut (r : Rc) : Bool := out 0 2 [r.page] || (out 0 2 [r.cell] || out 0 99 [r.old, r.new])
def outOf (n : Int) (r : Rc) : Bool := out 1 9 [r.txn] || (out 0 (n - 1) [r.prev] || ((turns r && cellOut r) || (r.kind == 3 && out 0 (n - 1) [r.next])))
def tooMuch (r : Rc) : Bool := (!turns r && out 0 0 [r.page, r.cell, r.old, r.new]) || (r.kind != 3 && r.next != 0)
/-- The document's error of a record. -/
def recErr (n : Int) (r : Rc) : Int := if out 1 60 [n] then 3 else if out 1 4 [r.kind] then 4 else if outOf n r then 3 else if tooMuch r then 1 else 0
theorem out1_false {lo hi n : Int} (h : out lo hi [n] = false) : lo ≤ n ∧ n ≤ hi := by simp [out] at h; omega

set_option maxHeartbeats 400000 in
theorem turns_any (r : Rc) (w : World) :
    Calls Tryz.prog 130 #[r.val] w fun e w' => e = .returned (.bool (turns r)) ∧ Ext w w' := by
  have hT : Hid (turns r = (r.kind == 1 || r.kind == 3)) := rfl
  cases h1 : (r.kind == 1)
  · cases h3 : (r.kind == 3)
    · have HT : Hid (turns r = false) := by rw [Hid, hT.out, h1, h3]; exact rfl
      go_enter Tryz.func130, Tryz.ntmps130
      go_wp2_with fail
      go_ret
      exact ⟨by rw [HT.out]; rfl, (Ext.refl _).alloc _⟩
    · have HT : Hid (turns r = true) := by rw [Hid, hT.out, h1, h3]; exact rfl
      go_enter Tryz.func130, Tryz.ntmps130
      go_wp2_with fail
      go_ret
      exact ⟨by rw [HT.out]; rfl, (Ext.refl _).alloc _⟩
  · have HT : Hid (turns r = true) := by rw [Hid, hT.out, h1]; rfl
    go_enter Tryz.func130, Tryz.ntmps130
    go_wp2_with fail
    go_ret
    exact ⟨by rw [HT.out]; rfl, (Ext.refl _).alloc _⟩

set_option maxHeartbeats 400000 in
theorem cellOut1 (r : Rc) (b : Nat) (w : World) (B : Blk w b r.cs 62) :
    Calls Tryz.prog 151 #[.pointer (some ⟨b, 0, none⟩)] w fun e w' => e = .returned (.bool (out 0 2 [r.page])) ∧ Ext w w' := by
  have c := B.cell
  go_enter Tryz.func151, Tryz.ntmps151
  go_wp2_with fail
  refine (outside_n 1 0 2 _ 0 1 [r.page] _ rfl (by decide) (cells1 (by simp [go_sem]))).mono ?_
  rintro e w1 ⟨rfl, rfl⟩
  go_wp2
  go_ret
  exact ⟨rfl, (Ext.refl _).alloc _⟩
theorem cellOut1_ans (r : Rc) (b : Nat) (w : World) (B : Blk w b r.cs 62) : Ans 151 #[.pointer (some ⟨b, 0, none⟩)] w (out 0 2 [r.page]) :=
  ⟨fun w => callFunc_enter _ w Tryz.func151 (by kernel_rfl) (by kernel_rfl), fun w' h => cellOut1 r b w' (B.ext h)⟩

set_option maxHeartbeats 400000 in
theorem cellOut2 (r : Rc) (b : Nat) (w : World) (B : Blk w b r.cs 62) :
    Calls Tryz.prog 152 #[.pointer (some ⟨b, 0, none⟩)] w fun e w' => e = .returned (.bool (out 0 2 [r.cell])) ∧ Ext w w' := by
  have c := B.cell
  go_enter Tryz.func152, Tryz.ntmps152
  go_wp2_with fail
  refine (outside_n 1 0 2 _ 0 1 [r.cell] _ rfl (by decide) (cells1 (by simp [go_sem]))).mono ?_
  rintro e w1 ⟨rfl, rfl⟩
  go_wp2
  go_ret
  exact ⟨rfl, (Ext.refl _).alloc _⟩
theorem cellOut2_ans (r : Rc) (b : Nat) (w : World) (B : Blk w b r.cs 62) : Ans 152 #[.pointer (some ⟨b, 0, none⟩)] w (out 0 2 [r.cell]) :=
  ⟨fun w => callFunc_enter _ w Tryz.func152 (by kernel_rfl) (by kernel_rfl), fun w' h => cellOut2 r b w' (B.ext h)⟩

set_option maxHeartbeats 400000 in
theorem cellOut3 (r : Rc) (b : Nat) (w : World) (B : Blk w b r.cs 62) :
    Calls Tryz.prog 153 #[.pointer (some ⟨b, 0, none⟩)] w fun e w' => e = .returned (.bool (out 0 99 [r.old, r.new])) ∧ Ext w w' := by
  have c := B.cell
  go_enter Tryz.func153, Tryz.ntmps153
  go_wp2_with fail
  refine (outside_n 2 0 99 _ 0 2 [r.old, r.new] _ rfl (by decide) (cells2 (by simp [go_sem]) (by simp [go_sem]))).mono ?_
  rintro e w1 ⟨rfl, rfl⟩
  go_wp2
  go_ret
  exact ⟨rfl, (Ext.refl _).alloc _⟩
theorem cellOut3_ans (r : Rc) (b : Nat) (w : World) (B : Blk w b r.cs 62) : Ans 153 #[.pointer (some ⟨b, 0, none⟩)] w (out 0 99 [r.old, r.new]) :=
  ⟨fun w => callFunc_enter _ w Tryz.func153 (by kernel_rfl) (by kernel_rfl), fun w' h => cellOut3 r b w' (B.ext h)⟩

set_option maxHeartbeats 400000 in
theorem cellOut_any (r : Rc) (w : World) :
    Calls Tryz.prog 141 #[r.val] w fun e w' => e = .returned (.bool (cellOut r)) ∧ Ext w w' := by
  go_enter Tryz.func141, Tryz.ntmps141
  go_wp2_with fail
  refine (any3 151 152 153 #[.pointer (some ⟨w.heap.size, 0, none⟩)] #[.pointer (some ⟨w.heap.size, 0, none⟩)] #[.pointer (some ⟨w.heap.size, 0, none⟩)] _ _ _ (by simp [go_sem]) (by simp [go_sem]) (by simp [go_sem])
    (cellOut1_ans r _ _ ((Blk.new _ _ _ _ rfl).alloc _)) (fun _ => cellOut2_ans r _ _ ((Blk.new _ _ _ _ rfl).alloc _)) (fun _ _ => cellOut3_ans r _ _ ((Blk.new _ _ _ _ rfl).alloc _))).mono ?_
  rintro e w1 ⟨rfl, hw1⟩
  go_wp2
  go_ret
  exact ⟨rfl, (((Ext.refl _).alloc _).alloc _).trans hw1⟩

set_option maxHeartbeats 400000 in
theorem outOf1 (r : Rc) (b : Nat) (w : World) (B : Blk w b r.cs 62) :
    Calls Tryz.prog 138 #[.pointer (some ⟨b, 0, none⟩)] w fun e w' => e = .returned (.bool (out 1 9 [r.txn])) ∧ Ext w w' := by
  have c := B.cell
  go_enter Tryz.func138, Tryz.ntmps138
  go_wp2_with fail
  refine (outside_n 1 1 9 _ 0 1 [r.txn] _ rfl (by decide) (cells1 (by simp [go_sem]))).mono ?_
  rintro e w1 ⟨rfl, rfl⟩
  go_wp2
  go_ret
  exact ⟨rfl, (Ext.refl _).alloc _⟩
theorem outOf1_ans (r : Rc) (b : Nat) (w : World) (B : Blk w b r.cs 62) : Ans 138 #[.pointer (some ⟨b, 0, none⟩)] w (out 1 9 [r.txn]) :=
  ⟨fun w => callFunc_enter _ w Tryz.func138 (by kernel_rfl) (by kernel_rfl), fun w' h => outOf1 r b w' (B.ext h)⟩

set_option maxHeartbeats 400000 in
theorem outOf2 (n : Int) (r : Rc) (bn b : Nat) (w : World) (h1 : 1 ≤ n) (h2 : n ≤ 60) (N : Blk w bn #[.int .i64 n] 3) (B : Blk w b r.cs 62) :
    Calls Tryz.prog 139 #[.pointer (some ⟨bn, 0, none⟩), .pointer (some ⟨b, 0, none⟩)] w fun e w' => e = .returned (.bool (out 0 (n - 1) [r.prev])) ∧ Ext w w' := by
  have c := B.cell
  have c2 := N.cell
  go_enter Tryz.func139, Tryz.ntmps139
  go_wp2_with fail
  refine (outside_n 1 0 (n - 1) _ 0 1 [r.prev] _ rfl (by decide) (cells1 (by simp [go_sem]))).mono ?_
  rintro e w1 ⟨rfl, rfl⟩
  go_wp2
  go_ret
  exact ⟨rfl, (Ext.refl _).alloc _⟩
theorem outOf2_ans (n : Int) (r : Rc) (bn b : Nat) (w : World) (h1 : 1 ≤ n) (h2 : n ≤ 60) (N : Blk w bn #[.int .i64 n] 3) (B : Blk w b r.cs 62) : Ans 139 #[.pointer (some ⟨bn, 0, none⟩), .pointer (some ⟨b, 0, none⟩)] w (out 0 (n - 1) [r.prev]) :=
  ⟨fun w => callFunc_enter _ w Tryz.func139 (by kernel_rfl) (by kernel_rfl), fun w' h => outOf2 n r bn b w' h1 h2 (N.ext h) (B.ext h)⟩

set_option maxHeartbeats 400000 in
theorem outOf3 (r : Rc) (b : Nat) (w : World) (B : Blk w b r.cs 62) :
    Calls Tryz.prog 140 #[.pointer (some ⟨b, 0, none⟩)] w fun e w' => e = .returned (.bool (turns r && cellOut r)) ∧ Ext w w' := by
  have c := B.cell
  go_enter Tryz.func140, Tryz.ntmps140
  go_wp2_with fail
  refine (turns_any r _).mono ?_
  rintro e w1 ⟨rfl, hw1⟩
  have B1 := B.ext hw1
  clear c B
  have c := B1.cell
  cases ht : turns r
  · have HT := (show Hid _ from ht)
    clear ht
    go_wp2_with fail
    go_ret
    exact ⟨by rw [HT.out]; rfl, hw1⟩
  · have HT := (show Hid _ from ht)
    clear ht
    go_wp2_with fail
    refine (cellOut_any r _).mono ?_
    rintro e w2 ⟨rfl, hw2⟩
    go_wp2_with fail
    go_ret
    exact ⟨by rw [HT.out]; rfl, hw1.trans hw2⟩
theorem outOf3_ans (r : Rc) (b : Nat) (w : World) (B : Blk w b r.cs 62) : Ans 140 #[.pointer (some ⟨b, 0, none⟩)] w (turns r && cellOut r) :=
  ⟨fun w => callFunc_enter _ w Tryz.func140 (by kernel_rfl) (by kernel_rfl), fun w' h => outOf3 r b w' (B.ext h)⟩

set_option maxHeartbeats 400000 in
theorem outOf4 (n : Int) (r : Rc) (bn b : Nat) (w : World) (h1 : 1 ≤ n) (h2 : n ≤ 60) (N : Blk w bn #[.int .i64 n] 3) (B : Blk w b r.cs 62) :
    Calls Tryz.prog 142 #[.pointer (some ⟨b, 0, none⟩), .pointer (some ⟨bn, 0, none⟩)] w fun e w' => e = .returned (.bool (r.kind == 3 && out 0 (n - 1) [r.next])) ∧ Ext w w' := by
  have c := B.cell
  have c2 := N.cell
  cases hk : (r.kind == 3)
  · go_enter Tryz.func142, Tryz.ntmps142
    go_wp2_with fail
    go_ret
    exact ⟨rfl, Ext.refl _⟩
  · go_enter Tryz.func142, Tryz.ntmps142
    go_wp2_with fail
    refine (outside_n 1 0 (n - 1) _ 0 1 [r.next] _ rfl (by decide) (cells1 (by simp [go_sem]))).mono ?_
    rintro e w1 ⟨rfl, rfl⟩
    go_wp2
    go_ret
    exact ⟨rfl, (Ext.refl _).alloc _⟩
theorem outOf4_ans (n : Int) (r : Rc) (bn b : Nat) (w : World) (h1 : 1 ≤ n) (h2 : n ≤ 60) (N : Blk w bn #[.int .i64 n] 3) (B : Blk w b r.cs 62) : Ans 142 #[.pointer (some ⟨b, 0, none⟩), .pointer (some ⟨bn, 0, none⟩)] w (r.kind == 3 && out 0 (n - 1) [r.next]) :=
  ⟨fun w => callFunc_enter _ w Tryz.func142 (by kernel_rfl) (by kernel_rfl), fun w' h => outOf4 n r bn b w' h1 h2 (N.ext h) (B.ext h)⟩

set_option maxHeartbeats 400000 in
theorem outOf_any (n : Int) (r : Rc) (w : World) (h1 : 1 ≤ n) (h2 : n ≤ 60) :
    Calls Tryz.prog 121 #[.int .i64 n, r.val] w fun e w' => e = .returned (.bool (outOf n r)) ∧ Ext w w' := by
  go_enter Tryz.func121, Tryz.ntmps121
  go_wp2_with fail
  refine (any4 138 139 140 142 #[.pointer (some ⟨w.heap.size + 1, 0, none⟩)] #[.pointer (some ⟨w.heap.size, 0, none⟩), .pointer (some ⟨w.heap.size + 1, 0, none⟩)] #[.pointer (some ⟨w.heap.size + 1, 0, none⟩)] #[.pointer (some ⟨w.heap.size + 1, 0, none⟩), .pointer (some ⟨w.heap.size, 0, none⟩)] _ _ _ _ (by simp [go_sem]) (by simp [go_sem]) (by simp [go_sem]) (by simp [go_sem])
    (outOf1_ans r _ _ ((Blk.new _ _ _ _ (by simp)).alloc _)) (fun _ => outOf2_ans n r _ _ _ h1 h2 (((Blk.new _ _ _ _ rfl).alloc _).alloc _) ((Blk.new _ _ _ _ (by simp)).alloc _)) (fun _ _ => outOf3_ans r _ _ ((Blk.new _ _ _ _ (by simp)).alloc _)) (fun _ _ _ => outOf4_ans n r _ _ _ h1 h2 (((Blk.new _ _ _ _ rfl).alloc _).alloc _) ((Blk.new _ _ _ _ (by simp)).alloc _))).mono ?_
  rintro e w1 ⟨rfl, hw1⟩
  go_wp2
  go_ret
  exact ⟨rfl, ((((Ext.refl _).alloc _).alloc _).alloc _).trans hw1⟩

set_option maxHeartbeats 400000 in
theorem tooMuch1 (r : Rc) (b : Nat) (w : World) (B : Blk w b r.cs 62) :
    Calls Tryz.prog 143 #[.pointer (some ⟨b, 0, none⟩)] w fun e w' => e = .returned (.bool (!turns r && out 0 0 [r.page, r.cell, r.old, r.new])) ∧ Ext w w' := by
  have c := B.cell
  go_enter Tryz.func143, Tryz.ntmps143
  go_wp2_with fail
  refine (turns_any r _).mono ?_
  rintro e w1 ⟨rfl, hw1⟩
  have B1 := B.ext hw1
  clear c B
  have c := B1.cell
  cases ht : turns r
  · have HT := (show Hid _ from ht)
    clear ht
    go_wp2_with fail
    refine (outside_n 4 0 0 _ 0 4 [r.page, r.cell, r.old, r.new] _ rfl (by decide) (cells4 (by simp [go_sem]) (by simp [go_sem]) (by simp [go_sem]) (by simp [go_sem]))).mono ?_
    rintro e w2 ⟨rfl, rfl⟩
    go_wp2_with fail
    go_ret
    exact ⟨by rw [HT.out]; rfl, hw1.alloc _⟩
  · have HT := (show Hid _ from ht)
    clear ht
    go_wp2_with fail
    go_ret
    exact ⟨by rw [HT.out]; rfl, hw1⟩
theorem tooMuch1_ans (r : Rc) (b : Nat) (w : World) (B : Blk w b r.cs 62) : Ans 143 #[.pointer (some ⟨b, 0, none⟩)] w (!turns r && out 0 0 [r.page, r.cell, r.old, r.new]) :=
  ⟨fun w => callFunc_enter _ w Tryz.func143 (by kernel_rfl) (by kernel_rfl), fun w' h => tooMuch1 r b w' (B.ext h)⟩

set_option maxHeartbeats 400000 in
theorem tooMuch2 (r : Rc) (b : Nat) (w : World) (B : Blk w b r.cs 62) :
    Calls Tryz.prog 144 #[.pointer (some ⟨b, 0, none⟩)] w fun e w' => e = .returned (.bool (r.kind != 3 && r.next != 0)) ∧ Ext w w' := by
  have c := B.cell
  cases hk : (r.kind != 3)
  all_goals
    go_enter Tryz.func144, Tryz.ntmps144
    go_wp2_with fail
    go_ret
    exact ⟨rfl, Ext.refl _⟩
theorem tooMuch2_ans (r : Rc) (b : Nat) (w : World) (B : Blk w b r.cs 62) : Ans 144 #[.pointer (some ⟨b, 0, none⟩)] w (r.kind != 3 && r.next != 0) :=
  ⟨fun w => callFunc_enter _ w Tryz.func144 (by kernel_rfl) (by kernel_rfl), fun w' h => tooMuch2 r b w' (B.ext h)⟩

set_option maxHeartbeats 400000 in
theorem tooMuch_any (r : Rc) (w : World) :
    Calls Tryz.prog 122 #[r.val] w fun e w' => e = .returned (.bool (tooMuch r)) ∧ Ext w w' := by
  go_enter Tryz.func122, Tryz.ntmps122
  go_wp2_with fail
  refine (any2 143 144 #[.pointer (some ⟨w.heap.size, 0, none⟩)] #[.pointer (some ⟨w.heap.size, 0, none⟩)] _ _ (by simp [go_sem]) (by simp [go_sem])
    (tooMuch1_ans r _ _ ((Blk.new _ _ _ _ rfl).alloc _)) (fun _ => tooMuch2_ans r _ _ ((Blk.new _ _ _ _ rfl).alloc _))).mono ?_
  rintro e w1 ⟨rfl, hw1⟩
  go_wp2
  go_ret
  exact ⟨rfl, (((Ext.refl _).alloc _).alloc _).trans hw1⟩

theorem recErr_1 {n : Int} {r : Rc} (h : out 1 60 [n] = true) : recErr n r = 3 := by simp [recErr, h]
theorem recErr_2 {n : Int} {r : Rc} (h : out 1 60 [n] = false) (h2 : out 1 4 [r.kind] = true) : recErr n r = 4 := by simp [recErr, h, h2]
theorem recErr_3 {n : Int} {r : Rc} (h : out 1 60 [n] = false) (h2 : out 1 4 [r.kind] = false) (h3 : outOf n r = true) : recErr n r = 3 := by simp [recErr, h, h2, h3]
theorem recErr_4 {n : Int} {r : Rc} (h : out 1 60 [n] = false) (h2 : out 1 4 [r.kind] = false) (h3 : outOf n r = false) (h4 : tooMuch r = true) : recErr n r = 1 := by simp [recErr, h, h2, h3, h4]
theorem recErr_5 {n : Int} {r : Rc} (h : out 1 60 [n] = false) (h2 : out 1 4 [r.kind] = false) (h3 : outOf n r = false) (h4 : tooMuch r = false) : recErr n r = 0 := by simp [recErr, h, h2, h3, h4]

set_option maxHeartbeats 800000 in
theorem recCheck_any (n : Int) (r : Rc) (w : World) :
    Calls Tryz.prog 112 #[.int .i64 n, r.val] w fun e w' => e = .returned (.int .i64 (recErr n r)) ∧ Ext w w' := by
  go_enter Tryz.func112, Tryz.ntmps112
  go_wp2_with fail
  refine (outside_n 1 1 60 _ 0 1 [n] _ rfl (by decide) (cells1 (by simp [go_sem]))).mono ?_
  rintro e w1 ⟨rfl, rfl⟩
  cases h1 : out 1 60 [n]
  · have H1 := (show Hid _ from h1)
    clear h1
    obtain ⟨n1, n2⟩ := out1_false H1.out
    go_wp2_with fail
    refine (outside_n 1 1 4 _ 0 1 [r.kind] _ rfl (by decide) (cells1 (by simp [go_sem]))).mono ?_
    rintro e w2 ⟨rfl, rfl⟩
    cases h2 : out 1 4 [r.kind]
    · have H2 := (show Hid _ from h2)
      clear h2
      go_wp2_with fail
      refine (outOf_any n r _ n1 n2).mono ?_
      rintro e w3 ⟨rfl, hw3⟩
      have B3 := (((Blk.new w w.heap.size r.cs 62 rfl).alloc _).alloc _).ext hw3
      have hE3 : Ext w w3 := ((((Ext.refl _).alloc _).alloc _).alloc _).trans hw3
      clear hw3
      have c := B3.cell
      cases h3 : outOf n r
      · have H3 := (show Hid _ from h3)
        clear h3
        go_wp2_with fail
        refine (tooMuch_any r _).mono ?_
        rintro e w4 ⟨rfl, hw4⟩
        have hE4 := hE3.trans hw4
        cases h4 : tooMuch r
        · have HR := (show Hid _ from recErr_5 H1.out H2.out H3.out h4)
          clear h4
          go_wp2_with fail
          go_ret
          exact ⟨by rw [HR.out]; rfl, hE4⟩
        · have HR := (show Hid _ from recErr_4 H1.out H2.out H3.out h4)
          clear h4
          go_wp2_with fail
          go_ret
          exact ⟨by rw [HR.out]; rfl, hE4⟩
      · have HR := (show Hid _ from recErr_3 H1.out H2.out h3)
        clear h3
        go_wp2_with fail
        go_ret
        exact ⟨by rw [HR.out]; rfl, hE3⟩
    · have HR := (show Hid _ from recErr_2 H1.out h2)
      clear h2
      go_wp2_with fail
      go_ret
      exact ⟨by rw [HR.out]; rfl, (((Ext.refl _).alloc _).alloc _).alloc _⟩
  · have HR := (show Hid _ from recErr_1 (r := r) h1)
    clear h1
    go_wp2_with fail
    go_ret
    exact ⟨by rw [HR.out]; rfl, ((Ext.refl _).alloc _).alloc _⟩
end Go.Proofs.YtbfefocehnafgaaGreat.B
