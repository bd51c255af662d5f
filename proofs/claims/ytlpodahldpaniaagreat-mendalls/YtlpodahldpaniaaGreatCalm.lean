/- A region that draws its order, whose operations read and whose callees only lay new blocks: one walk, in the order of the text, serves every order. -/
import Derived.Test.YtlpodahldpaniaaGreatBase
namespace Go.Proofs.YtlpodahldpaniaaGreat.B
set_option maxRecDepth 100000
open Go.ChangeShapes Go.WideShapes Go.ChangeAt Go.RowKit

/-- F names the worlds in which nothing that lay in W has turned: each is F of itself, and F of whatever is one. -/
structure Calm (W : World) (F : World → World) : Prop where
  ext : ∀ v, Ext W (F v)
  same : ∀ v, Ext W v → F v = v
theorem calm_there (W : World) : ∃ F, Calm W F := by
  refine ⟨fun v => (Classical.propDecidable (Ext W v)).rec (fun _ => W) (fun _ => v), fun v => ?_, fun v h => ?_⟩
  · cases Classical.propDecidable (Ext W v) with
    | isTrue h => exact h
    | isFalse h => exact Ext.refl W
  · cases Classical.propDecidable (Ext W v) with
    | isTrue _ => rfl
    | isFalse hn => exact absurd h hn
theorem wp_region_calm {P : Program} {id : Nat} {Q : Exit → Act → World → Prop} {a : Act} {w : World} {l : List Oper} (hm : P.follows .mixedOrders = true) (hB : Region.lexB .any l.toArray = true)
    (h : ∀ F, Calm w F → wpQuiet P l.toArray (fun w' => ∃ v, w' = F v) (fun a' => ∀ w', (∃ v, w' = F v) → Q .normal a' w') l a) : (Code.region id l.toArray true).wp P Q a w := by
  obtain ⟨F, hF⟩ := calm_there w
  exact wp_region_quiet (C := fun w' => ∃ v, w' = F v) hm hB ⟨w.drew, (hF.same w.drew (Ext.refl w).drew).symm⟩ (by simpa using h F hF)
theorem Calm.call {P : Program} {f : FuncId} {args : Array Value} {W : World} {F : World → World} (hF : Calm W F) {x : World} {v : Value}
    (h : Calls P f args (F x) fun e w' => e = .returned v ∧ Ext (F x) w') : Calls P f args (F x) fun e w'' => e = .returned v ∧ ∃ y, w'' = F y :=
  h.mono fun _ w' ⟨he, hw'⟩ => ⟨he, w', (hF.same w' ((hF.ext x).trans hw')).symm⟩
theorem Calm.still {P : Program} {f : FuncId} {args : Array Value} {W : World} {F : World → World} (_ : Calm W F) {x : World} {v : Value}
    (h : Calls P f args (F x) fun e w' => e = .returned v ∧ w' = F x) : Calls P f args (F x) fun e w'' => e = .returned v ∧ ∃ y, w'' = F y :=
  h.mono fun _ _ ⟨he, hw'⟩ => ⟨he, x, hw'⟩
theorem Calm.cell {W : World} {F : World → World} (hF : Calm W F) {k : Nat} {c : Array Value} {t : TypeId} (h : Blk W k c t) : ∀ (x : World) (o : Nat), (F x).cell? ⟨k, o, none⟩ = c[o]? := fun x => (h.ext (hF.ext x)).cell
end Go.Proofs.YtlpodahldpaniaaGreat.B
