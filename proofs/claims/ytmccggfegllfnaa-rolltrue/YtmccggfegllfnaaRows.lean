/-
  No cell of these rows narrows 'for every input' (looked for: loops, veiled, ifaces, maps, wideKeys, modest, calm, conditions, laid).
  DERIVED. THE GIVEN ROWS OF THIS SEAT. 6 by the template 'for every input the law returns true; each argument reads behind the call as it read before'; 0 by the template 'total and deterministic' (their statements: YtmccggfegllfnaaTotals.lean).
  GIVEN WITH THE SEED: the statements are not yours to turn. If you find one false, say at which input.
  Laid BY PROGRAM, IN A SANDBOX (cutbox-rows.mjs): the forced cells as the released guide's own fill.sh prints them over the translation 22e5b675fe21288b… (all of the seat's roots in one cut). By AI agents, Wed Nov 11 2026. No macro, syntax, notation, axiom, sorry.
-/
import Derived.Test.YtmccggfegllfnaaChecked
import GoSem.Claim
import GoSem.ClaimJoined
import GoSem.ClaimMapViews
import Derived.JoinedTies
import Derived.KernelRfl
namespace Go.Proofs.Ytmccggfegllfnaa
/- THE CELL 'sum', in the pinned program and in every row, IS THE sha256 OF THE DUMP (.gsa) THAT YtmccggfegllfnaaProg.lean LOADS. Nothing in Lean hashes anything: it is a label: what it is worth is what the hold of that sum in a sandbox is worth. -/
noncomputable def Try.pinned : Pinned := { name := "ytmccggfegllfnaa", sum := "22e5b675fe21288b8cad7c21db39b9ec4ffe6da181c059ea753993df1ce7cf50", checked := Try.checked }
namespace Rows
def none {H : Type} : Left H := { results := [], args := [] }

/-- 'croftlaw.WorkAlone': WHATEVER THE INPUT: true; the input reads as it did. -/
def workAloneSpec : ChangeSpec := { name := "workAlone", fn := fun _ => fun
  | [d1, d2, d3, d4, d5, d6] => { results := [.lit (.bool true)], args := [d1, d2, d3, d4, d5, d6] }
  | _ => none }
def workAloneRow : OpenClaim := { program := "ytmccggfegllfnaa", sum := "22e5b675fe21288b8cad7c21db39b9ec4ffe6da181c059ea753993df1ce7cf50", func := "croft/croftlaw.WorkAlone", spec := "workAlone", unfollowed := true, recurses := true, plainKeys := false, apart := false }
def WorkAloneSaid : Prop := workAloneRow.holds Try.pinned (OpenSpec.ofChange workAloneSpec)

/-- ITS FALSE NEIGHBOUR: 'it returns false'. Refute it at one input. -/
def workAloneWrong : ChangeSpec := { name := "workAlone", fn := fun _ => fun
  | [d1, d2, d3, d4, d5, d6] => { results := [.lit (.bool false)], args := [d1, d2, d3, d4, d5, d6] }
  | _ => none }
def WorkAloneWrongFalsely : Prop := workAloneRow.holds Try.pinned (OpenSpec.ofChange workAloneWrong)

/-- 'croftlaw.RollSteps': WHATEVER THE INPUT: true; the input reads as it did. -/
def rollStepsSpec : ChangeSpec := { name := "rollSteps", fn := fun _ => fun
  | [d1, d2] => { results := [.lit (.bool true)], args := [d1, d2] }
  | _ => none }
def rollStepsRow : OpenClaim := { program := "ytmccggfegllfnaa", sum := "22e5b675fe21288b8cad7c21db39b9ec4ffe6da181c059ea753993df1ce7cf50", func := "croft/croftlaw.RollSteps", spec := "rollSteps", unfollowed := true, recurses := true, plainKeys := false, apart := false }
def RollStepsSaid : Prop := rollStepsRow.holds Try.pinned (OpenSpec.ofChange rollStepsSpec)

/-- ITS FALSE NEIGHBOUR: 'it returns false'. Refute it at one input. -/
def rollStepsWrong : ChangeSpec := { name := "rollSteps", fn := fun _ => fun
  | [d1, d2] => { results := [.lit (.bool false)], args := [d1, d2] }
  | _ => none }
def RollStepsWrongFalsely : Prop := rollStepsRow.holds Try.pinned (OpenSpec.ofChange rollStepsWrong)

/-- 'croftlaw.RollAborts': WHATEVER THE INPUT: true; the input reads as it did. -/
def rollAbortsSpec : ChangeSpec := { name := "rollAborts", fn := fun _ => fun
  | [d1, d2] => { results := [.lit (.bool true)], args := [d1, d2] }
  | _ => none }
def rollAbortsRow : OpenClaim := { program := "ytmccggfegllfnaa", sum := "22e5b675fe21288b8cad7c21db39b9ec4ffe6da181c059ea753993df1ce7cf50", func := "croft/croftlaw.RollAborts", spec := "rollAborts", unfollowed := true, recurses := true, plainKeys := false, apart := false }
def RollAbortsSaid : Prop := rollAbortsRow.holds Try.pinned (OpenSpec.ofChange rollAbortsSpec)

/-- ITS FALSE NEIGHBOUR: 'it returns false'. Refute it at one input. -/
def rollAbortsWrong : ChangeSpec := { name := "rollAborts", fn := fun _ => fun
  | [d1, d2] => { results := [.lit (.bool false)], args := [d1, d2] }
  | _ => none }
def RollAbortsWrongFalsely : Prop := rollAbortsRow.holds Try.pinned (OpenSpec.ofChange rollAbortsWrong)

/-- 'croftlaw.RollTrue': WHATEVER THE INPUT: true; the input reads as it did. -/
def rollTrueSpec : ChangeSpec := { name := "rollTrue", fn := fun _ => fun
  | [d1, d2] => { results := [.lit (.bool true)], args := [d1, d2] }
  | _ => none }
def rollTrueRow : OpenClaim := { program := "ytmccggfegllfnaa", sum := "22e5b675fe21288b8cad7c21db39b9ec4ffe6da181c059ea753993df1ce7cf50", func := "croft/croftlaw.RollTrue", spec := "rollTrue", unfollowed := true, recurses := true, plainKeys := false, apart := false }
def RollTrueSaid : Prop := rollTrueRow.holds Try.pinned (OpenSpec.ofChange rollTrueSpec)

/-- ITS FALSE NEIGHBOUR: 'it returns false'. Refute it at one input. -/
def rollTrueWrong : ChangeSpec := { name := "rollTrue", fn := fun _ => fun
  | [d1, d2] => { results := [.lit (.bool false)], args := [d1, d2] }
  | _ => none }
def RollTrueWrongFalsely : Prop := rollTrueRow.holds Try.pinned (OpenSpec.ofChange rollTrueWrong)

/-- 'croftlaw.FlushTells': WHATEVER THE INPUT: true; the input reads as it did. -/
def flushTellsSpec : ChangeSpec := { name := "flushTells", fn := fun _ => fun
  | [d1, d2] => { results := [.lit (.bool true)], args := [d1, d2] }
  | _ => none }
def flushTellsRow : OpenClaim := { program := "ytmccggfegllfnaa", sum := "22e5b675fe21288b8cad7c21db39b9ec4ffe6da181c059ea753993df1ce7cf50", func := "croft/croftlaw.FlushTells", spec := "flushTells", unfollowed := true, recurses := true, plainKeys := false, apart := false }
def FlushTellsSaid : Prop := flushTellsRow.holds Try.pinned (OpenSpec.ofChange flushTellsSpec)

/-- ITS FALSE NEIGHBOUR: 'it returns false'. Refute it at one input. -/
def flushTellsWrong : ChangeSpec := { name := "flushTells", fn := fun _ => fun
  | [d1, d2] => { results := [.lit (.bool false)], args := [d1, d2] }
  | _ => none }
def FlushTellsWrongFalsely : Prop := flushTellsRow.holds Try.pinned (OpenSpec.ofChange flushTellsWrong)

/-- 'croftlaw.FlushTrue': WHATEVER THE INPUT: true; the input reads as it did. -/
def flushTrueSpec : ChangeSpec := { name := "flushTrue", fn := fun _ => fun
  | [d1, d2, d3] => { results := [.lit (.bool true)], args := [d1, d2, d3] }
  | _ => none }
def flushTrueRow : OpenClaim := { program := "ytmccggfegllfnaa", sum := "22e5b675fe21288b8cad7c21db39b9ec4ffe6da181c059ea753993df1ce7cf50", func := "croft/croftlaw.FlushTrue", spec := "flushTrue", unfollowed := true, recurses := true, plainKeys := false, apart := false }
def FlushTrueSaid : Prop := flushTrueRow.holds Try.pinned (OpenSpec.ofChange flushTrueSpec)

/-- ITS FALSE NEIGHBOUR: 'it returns false'. Refute it at one input. -/
def flushTrueWrong : ChangeSpec := { name := "flushTrue", fn := fun _ => fun
  | [d1, d2, d3] => { results := [.lit (.bool false)], args := [d1, d2, d3] }
  | _ => none }
def FlushTrueWrongFalsely : Prop := flushTrueRow.holds Try.pinned (OpenSpec.ofChange flushTrueWrong)

/- THE SECOND FORM. 'bulk': how many values and letters a reading holds, each counted each time it is reached (what is shared counts as often as it is met; a slice's spare places count too). A statement '..UptoSaid' is the law's where the arguments, and the package variables that the reading takes, are together of bulk at most 1048576: NARROWER than '..Said'. Prove '..Said' where nothing that the law and all that it calls make is longer than what came in: it says more and counts as full. Else prove '..UptoSaid'. A law counts once. -/
mutual
def uptoBulk {H : Type} : DataW H → Nat
  | .lit (.string bytes) => bytes.length + 1
  | .lit _ => 1
  | .nil => 1
  | .ptr d => uptoBulk d + 1
  | .slice elems spare => uptoBulkAll elems + uptoBulkAll spare + 1
  | .agg parts => uptoBulkAll parts + 1
  | .iface _ d => uptoBulk d + 1
  | .map entries => uptoBulkEntries entries + 1
  | .held _ => 1
def uptoBulkAll {H : Type} : List (DataW H) → Nat
  | [] => 0
  | d :: r => uptoBulk d + uptoBulkAll r
def uptoBulkEntries {H : Type} : List (Lit × DataW H) → Nat
  | [] => 0
  | x :: r => uptoBulkEntry x + uptoBulkEntries r
def uptoBulkEntry {H : Type} : Lit × DataW H → Nat
  | (.string bytes, d) => bytes.length + uptoBulk d + 1
  | (_, d) => uptoBulk d + 1
 end
def uptoSmall : (H : Type) → List (DataW H) → Bool := fun _ ds => decide (uptoBulkAll ds ≤ 1048576)
def OpenSpec.upto (s : _root_.Go.ChangeSpec) : _root_.Go.OpenSpec := { _root_.Go.OpenSpec.ofChange s with cond := some uptoSmall }

/-- 'croftlaw.WorkAlone', WHERE WHAT IT READS IS OF BULK AT MOST 1048576: true; the input reads as it did. -/
def workAloneUptoRow : OpenClaim := { program := "ytmccggfegllfnaa", sum := "22e5b675fe21288b8cad7c21db39b9ec4ffe6da181c059ea753993df1ce7cf50", func := "croft/croftlaw.WorkAlone", spec := "workAlone", unfollowed := true, recurses := true, plainKeys := false, apart := false, narrowed := true }
def WorkAloneUptoSaid : Prop := workAloneUptoRow.holds Try.pinned (OpenSpec.upto workAloneSpec)

/-- 'croftlaw.RollSteps', WHERE WHAT IT READS IS OF BULK AT MOST 1048576: true; the input reads as it did. -/
def rollStepsUptoRow : OpenClaim := { program := "ytmccggfegllfnaa", sum := "22e5b675fe21288b8cad7c21db39b9ec4ffe6da181c059ea753993df1ce7cf50", func := "croft/croftlaw.RollSteps", spec := "rollSteps", unfollowed := true, recurses := true, plainKeys := false, apart := false, narrowed := true }
def RollStepsUptoSaid : Prop := rollStepsUptoRow.holds Try.pinned (OpenSpec.upto rollStepsSpec)

/-- 'croftlaw.RollAborts', WHERE WHAT IT READS IS OF BULK AT MOST 1048576: true; the input reads as it did. -/
def rollAbortsUptoRow : OpenClaim := { program := "ytmccggfegllfnaa", sum := "22e5b675fe21288b8cad7c21db39b9ec4ffe6da181c059ea753993df1ce7cf50", func := "croft/croftlaw.RollAborts", spec := "rollAborts", unfollowed := true, recurses := true, plainKeys := false, apart := false, narrowed := true }
def RollAbortsUptoSaid : Prop := rollAbortsUptoRow.holds Try.pinned (OpenSpec.upto rollAbortsSpec)

/-- 'croftlaw.RollTrue', WHERE WHAT IT READS IS OF BULK AT MOST 1048576: true; the input reads as it did. -/
def rollTrueUptoRow : OpenClaim := { program := "ytmccggfegllfnaa", sum := "22e5b675fe21288b8cad7c21db39b9ec4ffe6da181c059ea753993df1ce7cf50", func := "croft/croftlaw.RollTrue", spec := "rollTrue", unfollowed := true, recurses := true, plainKeys := false, apart := false, narrowed := true }
def RollTrueUptoSaid : Prop := rollTrueUptoRow.holds Try.pinned (OpenSpec.upto rollTrueSpec)

/-- 'croftlaw.FlushTells', WHERE WHAT IT READS IS OF BULK AT MOST 1048576: true; the input reads as it did. -/
def flushTellsUptoRow : OpenClaim := { program := "ytmccggfegllfnaa", sum := "22e5b675fe21288b8cad7c21db39b9ec4ffe6da181c059ea753993df1ce7cf50", func := "croft/croftlaw.FlushTells", spec := "flushTells", unfollowed := true, recurses := true, plainKeys := false, apart := false, narrowed := true }
def FlushTellsUptoSaid : Prop := flushTellsUptoRow.holds Try.pinned (OpenSpec.upto flushTellsSpec)

/-- 'croftlaw.FlushTrue', WHERE WHAT IT READS IS OF BULK AT MOST 1048576: true; the input reads as it did. -/
def flushTrueUptoRow : OpenClaim := { program := "ytmccggfegllfnaa", sum := "22e5b675fe21288b8cad7c21db39b9ec4ffe6da181c059ea753993df1ce7cf50", func := "croft/croftlaw.FlushTrue", spec := "flushTrue", unfollowed := true, recurses := true, plainKeys := false, apart := false, narrowed := true }
def FlushTrueUptoSaid : Prop := flushTrueUptoRow.holds Try.pinned (OpenSpec.upto flushTrueSpec)

end Rows
end Go.Proofs.Ytmccggfegllfnaa
