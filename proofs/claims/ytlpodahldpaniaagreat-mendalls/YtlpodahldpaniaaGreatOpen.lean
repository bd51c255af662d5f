/- How the arguments of these laws are opened: a page, a record, a number, as values; what was read reads as it did behind a call that turned nothing. -/
import Derived.Test.YtlpodahldpaniaaGreatBase
import Derived.ShutString
import Derived.ChangeOld
namespace Go.Proofs.YtlpodahldpaniaaGreat.B
set_option maxRecDepth 100000
open Go.ChangeShapes Go.WideShapes Go.ChangeAt Go.RowKit

theorem own : ownKnob Tryz.prog.godebug = none := by kernel_rfl
theorem laidOut : laidOutB Tryz.prog = true := by kernel_rfl
theorem cell_int {w : World} {r : Reach} {base : Nat} {v : Value} (h : Cell.okWide Tryz.prog w r base 3 v) : ∃ n, v = .int .i64 n ∧ IntKind.i64.has n := by
  simp only [Cell.okWide, Tryz.underlying3] at h
  cases v <;> simp_all [Cell.ok]
theorem typesPage : Tryz.prog.cellTypes Tryz.prog.depth 24 = some [3, 3, 3, 3] := by kernel_rfl
theorem typesRec : Tryz.prog.cellTypes Tryz.prog.depth 65 = some [3, 3, 3, 3, 3, 3, 3, 3] := by kernel_rfl
theorem size4 {α : Type} {cs : Array α} (h : cs.size = 4) : ∃ a b c d, cs = #[a, b, c, d] := by
  obtain ⟨l⟩ := cs
  match l, h with
  | [a, b, c, d], _ => exact ⟨a, b, c, d, rfl⟩
theorem size8 {α : Type} {cs : Array α} (h : cs.size = 8) : ∃ a b c d e f g i, cs = #[a, b, c, d, e, f, g, i] := by
  obtain ⟨l⟩ := cs
  match l, h with
  | [a, b, c, d, e, f, g, i], _ => exact ⟨a, b, c, d, e, f, g, i, rfl⟩
theorem open_pg {w : World} {r : Reach} {base : Nat} {v : Value} (h : Value.okWide Tryz.prog w r base 24 v) : ∃ p : Pg, v = p.val := by
  simp only [Value.okWide, Tryz.underlying24] at h
  obtain ⟨cs, rfl, hs, ts, ht, _, hc⟩ := h
  rw [typesPage] at ht
  obtain rfl := Option.some.inj ht
  rw [show Tryz.prog.cellsOf 24 = 4 from by kernel_rfl] at hs
  obtain ⟨a, b, c, d, rfl⟩ := size4 hs
  obtain ⟨u0, e0, h0⟩ := hc 0 a rfl
  obtain ⟨u1, e1, h1⟩ := hc 1 b rfl
  obtain ⟨u2, e2, h2⟩ := hc 2 c rfl
  obtain ⟨u3, e3, h3⟩ := hc 3 d rfl
  obtain rfl := Option.some.inj e0
  obtain rfl := Option.some.inj e1
  obtain rfl := Option.some.inj e2
  obtain rfl := Option.some.inj e3
  obtain ⟨n0, rfl, _⟩ := cell_int h0
  obtain ⟨n1, rfl, _⟩ := cell_int h1
  obtain ⟨n2, rfl, _⟩ := cell_int h2
  obtain ⟨n3, rfl, _⟩ := cell_int h3
  exact ⟨⟨n0, n1, n2, n3⟩, rfl⟩
theorem open_rc {w : World} {r : Reach} {base : Nat} {v : Value} (h : Value.okWide Tryz.prog w r base 65 v) : ∃ p : Rc, v = p.val := by
  simp only [Value.okWide, Tryz.underlying65] at h
  obtain ⟨cs, rfl, hs, ts, ht, _, hc⟩ := h
  rw [typesRec] at ht
  obtain rfl := Option.some.inj ht
  rw [show Tryz.prog.cellsOf 65 = 8 from by kernel_rfl] at hs
  obtain ⟨a, b, c, d, e, f, g, i, rfl⟩ := size8 hs
  obtain ⟨u0, e0, h0⟩ := hc 0 a rfl
  obtain ⟨u1, e1, h1⟩ := hc 1 b rfl
  obtain ⟨u2, e2, h2⟩ := hc 2 c rfl
  obtain ⟨u3, e3, h3⟩ := hc 3 d rfl
  obtain ⟨u4, e4, h4⟩ := hc 4 e rfl
  obtain ⟨u5, e5, h5⟩ := hc 5 f rfl
  obtain ⟨u6, e6, h6⟩ := hc 6 g rfl
  obtain ⟨u7, e7, h7⟩ := hc 7 i rfl
  obtain rfl := Option.some.inj e0
  obtain rfl := Option.some.inj e1
  obtain rfl := Option.some.inj e2
  obtain rfl := Option.some.inj e3
  obtain rfl := Option.some.inj e4
  obtain rfl := Option.some.inj e5
  obtain rfl := Option.some.inj e6
  obtain rfl := Option.some.inj e7
  obtain ⟨n0, rfl, _⟩ := cell_int h0
  obtain ⟨n1, rfl, _⟩ := cell_int h1
  obtain ⟨n2, rfl, _⟩ := cell_int h2
  obtain ⟨n3, rfl, _⟩ := cell_int h3
  obtain ⟨n4, rfl, _⟩ := cell_int h4
  obtain ⟨n5, rfl, _⟩ := cell_int h5
  obtain ⟨n6, rfl, _⟩ := cell_int h6
  obtain ⟨n7, rfl, _⟩ := cell_int h7
  exact ⟨⟨n0, n1, n2, n3, n4, n5, n6, n7⟩, rfl⟩
theorem open_num {w : World} {r : Reach} {base : Nat} {v : Value} (h : Value.okWide Tryz.prog w r base 3 v) : ∃ n, v = .int .i64 n ∧ IntKind.i64.has n := by
  simp only [Value.okWide, Tryz.underlying3] at h
  exact cell_int h
theorem lt_of_trod {H : Type} {enc : TypeId × Value → H} {t : TypeId} {W : World} {v : Value} {d : DataW H} {ps : List MemPlace}
    (h : DataW.Trod enc Tryz.prog W 0 (fun _ => true) true t v d ps) : ∀ x ∈ ps, x.block < W.heap.size := by
  obtain ⟨m, hm⟩ := h; exact DataW.trod_lt m _ _ _ hm
end Go.Proofs.YtlpodahldpaniaaGreat.B
