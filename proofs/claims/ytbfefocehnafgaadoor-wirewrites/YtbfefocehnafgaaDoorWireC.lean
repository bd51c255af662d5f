/- The reference's ear, and WorldFrom. -/
import Derived.Test.YtbfefocehnafgaaDoorWireB
namespace Go.Proofs.YtbfefocehnafgaaDoor.B
set_option maxRecDepth 100000
open Go.ChangeShapes Go.WideShapes Go.ChangeAt Go.RowKit

theorem str_tail (b : UInt8) (s : List UInt8) : (⟨(b :: s).toArray⟩ : ByteArray).extract 1 (s.length + 1) = ⟨s.toArray⟩ := by
  apply ByteArray.ext
  simp
set_option maxHeartbeats 4000000 in
theorem earByte_nil (be : Nat) (w : World) (B : Blk w be #[txt []] 52) :
    Calls Tryd.prog 21 #[.pointer (some ⟨be, 0, none⟩)] w fun e w' => e = .returned (.int .i64 0) ∧ w' = w := by
  have c := B.cell
  go_enter Tryd.func21, Tryd.ntmps21
  go_wp2_with fail
  go_ret
  exact ⟨rfl, rfl⟩
set_option maxHeartbeats 4000000 in
theorem earByte_cons (b : UInt8) (s : List UInt8) (be : Nat) (w : World) (B : Blk w be #[txt (b :: s)] 52) (hs : s.length ≤ 5000) :
    Calls Tryd.prog 21 #[.pointer (some ⟨be, 0, none⟩)] w fun e w' => e = .returned (.int .i64 (b.toNat : Int)) ∧ w' = w.setCell ⟨be, 0, none⟩ (txt s) := by
  have c := B.cell
  have f := B.fr
  have HX : Hid ((⟨(b :: s).toArray⟩ : ByteArray).extract 1 (s.length + 1) = ⟨s.toArray⟩) := str_tail b s
  have HW : Hid (wrap64 (((⟨(b :: s).toArray⟩ : ByteArray)[0]'(by simp [ByteArray.size])).toNat : Int) = (b.toNat : Int)) := by show wrap64 ((b.toNat : Nat) : Int) = _; have := b.toNat_lt; unfold wrap64; omega
  go_enter Tryd.func21, Tryd.ntmps21
  go_wp2_with fail
  rw [HX.out]
  go_ret
  exact ⟨by rw [HW.out]; rfl, rfl⟩
/-- A byte of the ear: what is not there is 0. -/
theorem earByte_any (s : List UInt8) (be : Nat) (w : World) (B : Blk w be #[txt s] 52) (hs : s.length ≤ 5000) :
    Calls Tryd.prog 21 #[.pointer (some ⟨be, 0, none⟩)] w fun e w' => e = .returned (.int .i64 (byteAt s 0)) ∧ Blk w' be #[txt (s.drop 1)] 52 ∧ Gr (some be) w w' := by
  cases s with
  | nil =>
    refine (earByte_nil be w B).mono ?_
    rintro e w' ⟨rfl, rfl⟩
    exact ⟨rfl, B, Gr.refl _ _⟩
  | cons b s =>
    refine (earByte_cons b s be w B (by simp at hs; omega)).mono ?_
    rintro e w' ⟨rfl, rfl⟩
    exact ⟨rfl, B.set 0 (txt s), (Gr.refl _ _).set (p := ⟨be, 0, none⟩) (Or.inr rfl) _⟩
end Go.Proofs.YtbfefocehnafgaaDoor.B
