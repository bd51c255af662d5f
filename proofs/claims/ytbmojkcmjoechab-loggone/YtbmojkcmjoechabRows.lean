/-
  No cell of these rows narrows 'for every input' (looked for: loops, veiled, ifaces, maps, wideKeys, modest, calm, conditions, laid).
  DERIVED. THE GIVEN ROWS OF THIS SEAT. 4 by the template 'for every input the law returns true; each argument reads behind the call as it read before'; 0 by the template 'total and deterministic' (their statements: YtbmojkcmjoechabTotals.lean).
  GIVEN WITH THE SEED: the statements are not yours to turn. If you find one false, say at which input.
  Laid BY PROGRAM, IN A SANDBOX (cutbox-rows.mjs): the forced cells as the released guide's own fill.sh prints them over the translation 5652889247a1c319… (all of the seat's roots in one cut). By AI agents, Wed Nov 11 2026. No macro, syntax, notation, axiom, sorry.
-/
import Derived.Test.YtbmojkcmjoechabChecked
import GoSem.Claim
import GoSem.ClaimJoined
import GoSem.ClaimMapViews
import Derived.JoinedTies
import Derived.KernelRfl
namespace Go.Proofs.Ytbmojkcmjoechab
/- THE CELL 'sum', in the pinned program and in every row, IS THE sha256 OF THE DUMP (.gsa) THAT YtbmojkcmjoechabProg.lean LOADS. Nothing in Lean hashes anything: it is a label: what it is worth is what the hold of that sum in a sandbox is worth. -/
noncomputable def Try.pinned : Pinned := { name := "ytbmojkcmjoechab", sum := "5652889247a1c3199ad0beb38b62363c46b41b98efbeb7d32dc92196bbdce834", checked := Try.checked }
namespace Rows
def none {H : Type} : Left H := { results := [], args := [] }

/-- 'croftlaw.LogStates': WHATEVER THE INPUT: true; the input reads as it did. -/
def logStatesSpec : ChangeSpec := { name := "logStates", fn := fun _ => fun
  | [d1, d2] => { results := [.lit (.bool true)], args := [d1, d2] }
  | _ => none }
def logStatesRow : OpenClaim := { program := "ytbmojkcmjoechab", sum := "5652889247a1c3199ad0beb38b62363c46b41b98efbeb7d32dc92196bbdce834", func := "croft/croftlaw.LogStates", spec := "logStates", unfollowed := true, recurses := true, plainKeys := false, apart := false }
def LogStatesSaid : Prop := logStatesRow.holds Try.pinned (OpenSpec.ofChange logStatesSpec)

/-- ITS FALSE NEIGHBOUR: 'it returns false'. Refute it at one input. -/
def logStatesWrong : ChangeSpec := { name := "logStates", fn := fun _ => fun
  | [d1, d2] => { results := [.lit (.bool false)], args := [d1, d2] }
  | _ => none }
def LogStatesWrongFalsely : Prop := logStatesRow.holds Try.pinned (OpenSpec.ofChange logStatesWrong)

/-- 'croftlaw.LogTrue': WHATEVER THE INPUT: true; the input reads as it did. -/
def logTrueSpec : ChangeSpec := { name := "logTrue", fn := fun _ => fun
  | [d1, d2, d3] => { results := [.lit (.bool true)], args := [d1, d2, d3] }
  | _ => none }
def logTrueRow : OpenClaim := { program := "ytbmojkcmjoechab", sum := "5652889247a1c3199ad0beb38b62363c46b41b98efbeb7d32dc92196bbdce834", func := "croft/croftlaw.LogTrue", spec := "logTrue", unfollowed := true, recurses := true, plainKeys := false, apart := false }
def LogTrueSaid : Prop := logTrueRow.holds Try.pinned (OpenSpec.ofChange logTrueSpec)

/-- ITS FALSE NEIGHBOUR: 'it returns false'. Refute it at one input. -/
def logTrueWrong : ChangeSpec := { name := "logTrue", fn := fun _ => fun
  | [d1, d2, d3] => { results := [.lit (.bool false)], args := [d1, d2, d3] }
  | _ => none }
def LogTrueWrongFalsely : Prop := logTrueRow.holds Try.pinned (OpenSpec.ofChange logTrueWrong)

/-- 'croftlaw.LogGone': WHATEVER THE INPUT: true; the input reads as it did. -/
def logGoneSpec : ChangeSpec := { name := "logGone", fn := fun _ => fun
  | [d1, d2] => { results := [.lit (.bool true)], args := [d1, d2] }
  | _ => none }
def logGoneRow : OpenClaim := { program := "ytbmojkcmjoechab", sum := "5652889247a1c3199ad0beb38b62363c46b41b98efbeb7d32dc92196bbdce834", func := "croft/croftlaw.LogGone", spec := "logGone", unfollowed := true, recurses := true, plainKeys := false, apart := false }
def LogGoneSaid : Prop := logGoneRow.holds Try.pinned (OpenSpec.ofChange logGoneSpec)

/-- ITS FALSE NEIGHBOUR: 'it returns false'. Refute it at one input. -/
def logGoneWrong : ChangeSpec := { name := "logGone", fn := fun _ => fun
  | [d1, d2] => { results := [.lit (.bool false)], args := [d1, d2] }
  | _ => none }
def LogGoneWrongFalsely : Prop := logGoneRow.holds Try.pinned (OpenSpec.ofChange logGoneWrong)

/-- 'croftlaw.LogAlone': WHATEVER THE INPUT: true; the input reads as it did. -/
def logAloneSpec : ChangeSpec := { name := "logAlone", fn := fun _ => fun
  | [d1, d2, d3] => { results := [.lit (.bool true)], args := [d1, d2, d3] }
  | _ => none }
def logAloneRow : OpenClaim := { program := "ytbmojkcmjoechab", sum := "5652889247a1c3199ad0beb38b62363c46b41b98efbeb7d32dc92196bbdce834", func := "croft/croftlaw.LogAlone", spec := "logAlone", unfollowed := true, recurses := true, plainKeys := false, apart := false }
def LogAloneSaid : Prop := logAloneRow.holds Try.pinned (OpenSpec.ofChange logAloneSpec)

/-- ITS FALSE NEIGHBOUR: 'it returns false'. Refute it at one input. -/
def logAloneWrong : ChangeSpec := { name := "logAlone", fn := fun _ => fun
  | [d1, d2, d3] => { results := [.lit (.bool false)], args := [d1, d2, d3] }
  | _ => none }
def LogAloneWrongFalsely : Prop := logAloneRow.holds Try.pinned (OpenSpec.ofChange logAloneWrong)

/- THE SECOND FORM. 'bulk': how many values and letters a reading holds, each counted each time it is reached (what is shared counts as often as it is met; a slice's spare places count too). A statement '..UptoSaid' is the law's where the arguments, and the package variables that the reading takes, are together of bulk at most 1048576: NARROWER than '..Said'. Prove '..Said' where nothing that the law and all that it calls make is longer than what came in: it says more and counts as full. Else prove '..UptoSaid'. A law counts once. -/
mutual
def uptoBulk {H : Type} : DataW H → Nat
  | .lit (.string bytes) => bytes.length + 1
  | .lit _ => 1
  | .nil => 1
  | .ptr d => uptoBulk d + 1
  | .slice elems spare => uptoBulkAll elems + uptoBulkAll spare + 1
  | .agg parts => uptoBulkAll parts + 1
  | .iface _ d => uptoBulk d + 1
  | .map entries => uptoBulkEntries entries + 1
  | .held _ => 1
def uptoBulkAll {H : Type} : List (DataW H) → Nat
  | [] => 0
  | d :: r => uptoBulk d + uptoBulkAll r
def uptoBulkEntries {H : Type} : List (Lit × DataW H) → Nat
  | [] => 0
  | x :: r => uptoBulkEntry x + uptoBulkEntries r
def uptoBulkEntry {H : Type} : Lit × DataW H → Nat
  | (.string bytes, d) => bytes.length + uptoBulk d + 1
  | (_, d) => uptoBulk d + 1
 end
def uptoSmall : (H : Type) → List (DataW H) → Bool := fun _ ds => decide (uptoBulkAll ds ≤ 1048576)
def OpenSpec.upto (s : _root_.Go.ChangeSpec) : _root_.Go.OpenSpec := { _root_.Go.OpenSpec.ofChange s with cond := some uptoSmall }

/-- 'croftlaw.LogStates', WHERE WHAT IT READS IS OF BULK AT MOST 1048576: true; the input reads as it did. -/
def logStatesUptoRow : OpenClaim := { program := "ytbmojkcmjoechab", sum := "5652889247a1c3199ad0beb38b62363c46b41b98efbeb7d32dc92196bbdce834", func := "croft/croftlaw.LogStates", spec := "logStates", unfollowed := true, recurses := true, plainKeys := false, apart := false, narrowed := true }
def LogStatesUptoSaid : Prop := logStatesUptoRow.holds Try.pinned (OpenSpec.upto logStatesSpec)

/-- 'croftlaw.LogTrue', WHERE WHAT IT READS IS OF BULK AT MOST 1048576: true; the input reads as it did. -/
def logTrueUptoRow : OpenClaim := { program := "ytbmojkcmjoechab", sum := "5652889247a1c3199ad0beb38b62363c46b41b98efbeb7d32dc92196bbdce834", func := "croft/croftlaw.LogTrue", spec := "logTrue", unfollowed := true, recurses := true, plainKeys := false, apart := false, narrowed := true }
def LogTrueUptoSaid : Prop := logTrueUptoRow.holds Try.pinned (OpenSpec.upto logTrueSpec)

/-- 'croftlaw.LogGone', WHERE WHAT IT READS IS OF BULK AT MOST 1048576: true; the input reads as it did. -/
def logGoneUptoRow : OpenClaim := { program := "ytbmojkcmjoechab", sum := "5652889247a1c3199ad0beb38b62363c46b41b98efbeb7d32dc92196bbdce834", func := "croft/croftlaw.LogGone", spec := "logGone", unfollowed := true, recurses := true, plainKeys := false, apart := false, narrowed := true }
def LogGoneUptoSaid : Prop := logGoneUptoRow.holds Try.pinned (OpenSpec.upto logGoneSpec)

/-- 'croftlaw.LogAlone', WHERE WHAT IT READS IS OF BULK AT MOST 1048576: true; the input reads as it did. -/
def logAloneUptoRow : OpenClaim := { program := "ytbmojkcmjoechab", sum := "5652889247a1c3199ad0beb38b62363c46b41b98efbeb7d32dc92196bbdce834", func := "croft/croftlaw.LogAlone", spec := "logAlone", unfollowed := true, recurses := true, plainKeys := false, apart := false, narrowed := true }
def LogAloneUptoSaid : Prop := logAloneUptoRow.holds Try.pinned (OpenSpec.upto logAloneSpec)

end Rows
end Go.Proofs.Ytbmojkcmjoechab
