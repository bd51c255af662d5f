/-
  No cell of these rows narrows 'for every input' (looked for: loops, veiled, ifaces, maps, wideKeys, modest, calm, conditions, laid).
  DERIVED. THE GIVEN ROWS OF THIS SEAT. 6 by the template 'for every input the law returns true; each argument reads behind the call as it read before'; 0 by the template 'total and deterministic' (their statements: YtbfefocehnafgaaGreatTotals.lean).
  GIVEN WITH THE SEED: the statements are not yours to turn. If you find one false, say at which input.
  Laid BY PROGRAM, IN A SANDBOX (cutbox-rows.mjs): the forced cells as the released guide's own fill.sh prints them over the translation 2c50a500c5cf625b… (all of the seat's roots in one cut). By AI agents, Wed Nov 11 2026. No macro, syntax, notation, axiom, sorry.
-/
import Derived.Test.YtbfefocehnafgaaGreatChecked
import GoSem.Claim
import GoSem.ClaimJoined
import GoSem.ClaimMapViews
import Derived.JoinedTies
import Derived.KernelRfl
namespace Go.Proofs.YtbfefocehnafgaaGreat
/- THE CELL 'sum', in the pinned program and in every row, IS THE sha256 OF THE DUMP (.gsa) THAT YtbfefocehnafgaaGreatProg.lean LOADS. Nothing in Lean hashes anything: it is a label: what it is worth is what the hold of that sum in a sandbox is worth. -/
noncomputable def Tryz.pinned : Pinned := { name := "ytbfefocehnafgaagreat", sum := "2c50a500c5cf625b9c27e5ae1663994d0bf6602dfa9ad49f45257bc0d02d8a11", checked := Tryz.checked }
namespace Rows
def none {H : Type} : Left H := { results := [], args := [] }

/-- 'croftlaw.ActDoes': WHATEVER THE INPUT: true; the input reads as it did. -/
def actDoesSpec : ChangeSpec := { name := "actDoes", fn := fun _ => fun
  | [d1, d2] => { results := [.lit (.bool true)], args := [d1, d2] }
  | _ => none }
def actDoesRow : OpenClaim := { program := "ytbfefocehnafgaagreat", sum := "2c50a500c5cf625b9c27e5ae1663994d0bf6602dfa9ad49f45257bc0d02d8a11", func := "croft/croftlaw.ActDoes", spec := "actDoes", unfollowed := true, recurses := true, plainKeys := false, apart := false }
def ActDoesSaid : Prop := actDoesRow.holds Tryz.pinned (OpenSpec.ofChange actDoesSpec)

/-- ITS FALSE NEIGHBOUR: 'it returns false'. Refute it at one input. -/
def actDoesWrong : ChangeSpec := { name := "actDoes", fn := fun _ => fun
  | [d1, d2] => { results := [.lit (.bool false)], args := [d1, d2] }
  | _ => none }
def ActDoesWrongFalsely : Prop := actDoesRow.holds Tryz.pinned (OpenSpec.ofChange actDoesWrong)

/-- 'croftlaw.ActAlls': WHATEVER THE INPUT: true; the input reads as it did. -/
def actAllsSpec : ChangeSpec := { name := "actAlls", fn := fun _ => fun
  | [d] => { results := [.lit (.bool true)], args := [d] }
  | _ => none }
def actAllsRow : OpenClaim := { program := "ytbfefocehnafgaagreat", sum := "2c50a500c5cf625b9c27e5ae1663994d0bf6602dfa9ad49f45257bc0d02d8a11", func := "croft/croftlaw.ActAlls", spec := "actAlls", unfollowed := true, recurses := true, plainKeys := false, apart := false }
def ActAllsSaid : Prop := actAllsRow.holds Tryz.pinned (OpenSpec.ofChange actAllsSpec)

/-- ITS FALSE NEIGHBOUR: 'it returns false'. Refute it at one input. -/
def actAllsWrong : ChangeSpec := { name := "actAlls", fn := fun _ => fun
  | [d] => { results := [.lit (.bool false)], args := [d] }
  | _ => none }
def ActAllsWrongFalsely : Prop := actAllsRow.holds Tryz.pinned (OpenSpec.ofChange actAllsWrong)

/-- 'croftlaw.ActRight': WHATEVER THE INPUT: true; the input reads as it did. -/
def actRightSpec : ChangeSpec := { name := "actRight", fn := fun _ => fun
  | [d1, d2] => { results := [.lit (.bool true)], args := [d1, d2] }
  | _ => none }
def actRightRow : OpenClaim := { program := "ytbfefocehnafgaagreat", sum := "2c50a500c5cf625b9c27e5ae1663994d0bf6602dfa9ad49f45257bc0d02d8a11", func := "croft/croftlaw.ActRight", spec := "actRight", unfollowed := true, recurses := true, plainKeys := false, apart := false }
def ActRightSaid : Prop := actRightRow.holds Tryz.pinned (OpenSpec.ofChange actRightSpec)

/-- ITS FALSE NEIGHBOUR: 'it returns false'. Refute it at one input. -/
def actRightWrong : ChangeSpec := { name := "actRight", fn := fun _ => fun
  | [d1, d2] => { results := [.lit (.bool false)], args := [d1, d2] }
  | _ => none }
def ActRightWrongFalsely : Prop := actRightRow.holds Tryz.pinned (OpenSpec.ofChange actRightWrong)

/-- 'croftlaw.ActKept': WHATEVER THE INPUT: true; the input reads as it did. -/
def actKeptSpec : ChangeSpec := { name := "actKept", fn := fun _ => fun
  | [d1, d2, d3] => { results := [.lit (.bool true)], args := [d1, d2, d3] }
  | _ => none }
def actKeptRow : OpenClaim := { program := "ytbfefocehnafgaagreat", sum := "2c50a500c5cf625b9c27e5ae1663994d0bf6602dfa9ad49f45257bc0d02d8a11", func := "croft/croftlaw.ActKept", spec := "actKept", unfollowed := true, recurses := true, plainKeys := false, apart := false }
def ActKeptSaid : Prop := actKeptRow.holds Tryz.pinned (OpenSpec.ofChange actKeptSpec)

/-- ITS FALSE NEIGHBOUR: 'it returns false'. Refute it at one input. -/
def actKeptWrong : ChangeSpec := { name := "actKept", fn := fun _ => fun
  | [d1, d2, d3] => { results := [.lit (.bool false)], args := [d1, d2, d3] }
  | _ => none }
def ActKeptWrongFalsely : Prop := actKeptRow.holds Tryz.pinned (OpenSpec.ofChange actKeptWrong)

/-- 'croftlaw.ActLost': WHATEVER THE INPUT: true; the input reads as it did. -/
def actLostSpec : ChangeSpec := { name := "actLost", fn := fun _ => fun
  | [d1, d2] => { results := [.lit (.bool true)], args := [d1, d2] }
  | _ => none }
def actLostRow : OpenClaim := { program := "ytbfefocehnafgaagreat", sum := "2c50a500c5cf625b9c27e5ae1663994d0bf6602dfa9ad49f45257bc0d02d8a11", func := "croft/croftlaw.ActLost", spec := "actLost", unfollowed := true, recurses := true, plainKeys := false, apart := false }
def ActLostSaid : Prop := actLostRow.holds Tryz.pinned (OpenSpec.ofChange actLostSpec)

/-- ITS FALSE NEIGHBOUR: 'it returns false'. Refute it at one input. -/
def actLostWrong : ChangeSpec := { name := "actLost", fn := fun _ => fun
  | [d1, d2] => { results := [.lit (.bool false)], args := [d1, d2] }
  | _ => none }
def ActLostWrongFalsely : Prop := actLostRow.holds Tryz.pinned (OpenSpec.ofChange actLostWrong)

/-- 'croftlaw.RestWorlds': WHATEVER THE INPUT: true; the input reads as it did. -/
def restWorldsSpec : ChangeSpec := { name := "restWorlds", fn := fun _ => fun
  | [d1, d2] => { results := [.lit (.bool true)], args := [d1, d2] }
  | _ => none }
def restWorldsRow : OpenClaim := { program := "ytbfefocehnafgaagreat", sum := "2c50a500c5cf625b9c27e5ae1663994d0bf6602dfa9ad49f45257bc0d02d8a11", func := "croft/croftlaw.RestWorlds", spec := "restWorlds", unfollowed := true, recurses := true, plainKeys := false, apart := false }
def RestWorldsSaid : Prop := restWorldsRow.holds Tryz.pinned (OpenSpec.ofChange restWorldsSpec)

/-- ITS FALSE NEIGHBOUR: 'it returns false'. Refute it at one input. -/
def restWorldsWrong : ChangeSpec := { name := "restWorlds", fn := fun _ => fun
  | [d1, d2] => { results := [.lit (.bool false)], args := [d1, d2] }
  | _ => none }
def RestWorldsWrongFalsely : Prop := restWorldsRow.holds Tryz.pinned (OpenSpec.ofChange restWorldsWrong)

/- THE SECOND FORM. 'bulk': how many values and letters a reading holds, each counted each time it is reached (what is shared counts as often as it is met; a slice's spare places count too). A statement '..UptoSaid' is the law's where the arguments, and the package variables that the reading takes, are together of bulk at most 1048576: NARROWER than '..Said'. Prove '..Said' where nothing that the law and all that it calls make is longer than what came in: it says more and counts as full. Else prove '..UptoSaid'. A law counts once. -/
mutual
def uptoBulk {H : Type} : DataW H → Nat
  | .lit (.string bytes) => bytes.length + 1
  | .lit _ => 1
  | .nil => 1
  | .ptr d => uptoBulk d + 1
  | .slice elems spare => uptoBulkAll elems + uptoBulkAll spare + 1
  | .agg parts => uptoBulkAll parts + 1
  | .iface _ d => uptoBulk d + 1
  | .map entries => uptoBulkEntries entries + 1
  | .held _ => 1
def uptoBulkAll {H : Type} : List (DataW H) → Nat
  | [] => 0
  | d :: r => uptoBulk d + uptoBulkAll r
def uptoBulkEntries {H : Type} : List (Lit × DataW H) → Nat
  | [] => 0
  | x :: r => uptoBulkEntry x + uptoBulkEntries r
def uptoBulkEntry {H : Type} : Lit × DataW H → Nat
  | (.string bytes, d) => bytes.length + uptoBulk d + 1
  | (_, d) => uptoBulk d + 1
 end
def uptoSmall : (H : Type) → List (DataW H) → Bool := fun _ ds => decide (uptoBulkAll ds ≤ 1048576)
def OpenSpec.upto (s : _root_.Go.ChangeSpec) : _root_.Go.OpenSpec := { _root_.Go.OpenSpec.ofChange s with cond := some uptoSmall }

/-- 'croftlaw.ActDoes', WHERE WHAT IT READS IS OF BULK AT MOST 1048576: true; the input reads as it did. -/
def actDoesUptoRow : OpenClaim := { program := "ytbfefocehnafgaagreat", sum := "2c50a500c5cf625b9c27e5ae1663994d0bf6602dfa9ad49f45257bc0d02d8a11", func := "croft/croftlaw.ActDoes", spec := "actDoes", unfollowed := true, recurses := true, plainKeys := false, apart := false, narrowed := true }
def ActDoesUptoSaid : Prop := actDoesUptoRow.holds Tryz.pinned (OpenSpec.upto actDoesSpec)

/-- 'croftlaw.ActAlls', WHERE WHAT IT READS IS OF BULK AT MOST 1048576: true; the input reads as it did. -/
def actAllsUptoRow : OpenClaim := { program := "ytbfefocehnafgaagreat", sum := "2c50a500c5cf625b9c27e5ae1663994d0bf6602dfa9ad49f45257bc0d02d8a11", func := "croft/croftlaw.ActAlls", spec := "actAlls", unfollowed := true, recurses := true, plainKeys := false, apart := false, narrowed := true }
def ActAllsUptoSaid : Prop := actAllsUptoRow.holds Tryz.pinned (OpenSpec.upto actAllsSpec)

/-- 'croftlaw.ActRight', WHERE WHAT IT READS IS OF BULK AT MOST 1048576: true; the input reads as it did. -/
def actRightUptoRow : OpenClaim := { program := "ytbfefocehnafgaagreat", sum := "2c50a500c5cf625b9c27e5ae1663994d0bf6602dfa9ad49f45257bc0d02d8a11", func := "croft/croftlaw.ActRight", spec := "actRight", unfollowed := true, recurses := true, plainKeys := false, apart := false, narrowed := true }
def ActRightUptoSaid : Prop := actRightUptoRow.holds Tryz.pinned (OpenSpec.upto actRightSpec)

/-- 'croftlaw.ActKept', WHERE WHAT IT READS IS OF BULK AT MOST 1048576: true; the input reads as it did. -/
def actKeptUptoRow : OpenClaim := { program := "ytbfefocehnafgaagreat", sum := "2c50a500c5cf625b9c27e5ae1663994d0bf6602dfa9ad49f45257bc0d02d8a11", func := "croft/croftlaw.ActKept", spec := "actKept", unfollowed := true, recurses := true, plainKeys := false, apart := false, narrowed := true }
def ActKeptUptoSaid : Prop := actKeptUptoRow.holds Tryz.pinned (OpenSpec.upto actKeptSpec)

/-- 'croftlaw.ActLost', WHERE WHAT IT READS IS OF BULK AT MOST 1048576: true; the input reads as it did. -/
def actLostUptoRow : OpenClaim := { program := "ytbfefocehnafgaagreat", sum := "2c50a500c5cf625b9c27e5ae1663994d0bf6602dfa9ad49f45257bc0d02d8a11", func := "croft/croftlaw.ActLost", spec := "actLost", unfollowed := true, recurses := true, plainKeys := false, apart := false, narrowed := true }
def ActLostUptoSaid : Prop := actLostUptoRow.holds Tryz.pinned (OpenSpec.upto actLostSpec)

/-- 'croftlaw.RestWorlds', WHERE WHAT IT READS IS OF BULK AT MOST 1048576: true; the input reads as it did. -/
def restWorldsUptoRow : OpenClaim := { program := "ytbfefocehnafgaagreat", sum := "2c50a500c5cf625b9c27e5ae1663994d0bf6602dfa9ad49f45257bc0d02d8a11", func := "croft/croftlaw.RestWorlds", spec := "restWorlds", unfollowed := true, recurses := true, plainKeys := false, apart := false, narrowed := true }
def RestWorldsUptoSaid : Prop := restWorldsUptoRow.holds Tryz.pinned (OpenSpec.upto restWorldsSpec)

end Rows
end Go.Proofs.YtbfefocehnafgaaGreat
