/-
  No cell of these rows narrows 'for every input' (looked for: loops, veiled, ifaces, maps, wideKeys, modest, calm, conditions, laid).
  DERIVED. THE GIVEN ROWS OF THIS SEAT. 6 by the template 'for every input the law returns true; each argument reads behind the call as it read before'; 0 by the template 'total and deterministic' (their statements: YtlpodahldpaniaaTotals.lean).
  GIVEN WITH THE SEED: the statements are not yours to turn. If you find one false, say at which input.
  Laid BY PROGRAM, IN A SANDBOX (cutbox-rows.mjs): the forced cells as the released guide's own fill.sh prints them over the translation 4830944a20134adb… (all of the seat's roots in one cut). By AI agents, Wed Nov 11 2026. No macro, syntax, notation, axiom, sorry.
-/
import Derived.Test.YtlpodahldpaniaaChecked
import GoSem.Claim
import GoSem.ClaimJoined
import GoSem.ClaimMapViews
import Derived.JoinedTies
import Derived.KernelRfl
namespace Go.Proofs.Ytlpodahldpaniaa
/- THE CELL 'sum', in the pinned program and in every row, IS THE sha256 OF THE DUMP (.gsa) THAT YtlpodahldpaniaaProg.lean LOADS. Nothing in Lean hashes anything: it is a label: what it is worth is what the hold of that sum in a sandbox is worth. -/
noncomputable def Try.pinned : Pinned := { name := "ytlpodahldpaniaa", sum := "4830944a20134adbe47499d5bb41d7af62c26c5bfa590b060f2d3a747ee50c13", checked := Try.checked }
namespace Rows
def none {H : Type} : Left H := { results := [], args := [] }

/-- 'croftlaw.ScanTells': WHATEVER THE INPUT: true; the input reads as it did. -/
def scanTellsSpec : ChangeSpec := { name := "scanTells", fn := fun _ => fun
  | [d] => { results := [.lit (.bool true)], args := [d] }
  | _ => none }
def scanTellsRow : OpenClaim := { program := "ytlpodahldpaniaa", sum := "4830944a20134adbe47499d5bb41d7af62c26c5bfa590b060f2d3a747ee50c13", func := "croft/croftlaw.ScanTells", spec := "scanTells", unfollowed := true, recurses := true, plainKeys := false, apart := false }
def ScanTellsSaid : Prop := scanTellsRow.holds Try.pinned (OpenSpec.ofChange scanTellsSpec)

/-- ITS FALSE NEIGHBOUR: 'it returns false'. Refute it at one input. -/
def scanTellsWrong : ChangeSpec := { name := "scanTells", fn := fun _ => fun
  | [d] => { results := [.lit (.bool false)], args := [d] }
  | _ => none }
def ScanTellsWrongFalsely : Prop := scanTellsRow.holds Try.pinned (OpenSpec.ofChange scanTellsWrong)

/-- 'croftlaw.ScanRedoes': WHATEVER THE INPUT: true; the input reads as it did. -/
def scanRedoesSpec : ChangeSpec := { name := "scanRedoes", fn := fun _ => fun
  | [d] => { results := [.lit (.bool true)], args := [d] }
  | _ => none }
def scanRedoesRow : OpenClaim := { program := "ytlpodahldpaniaa", sum := "4830944a20134adbe47499d5bb41d7af62c26c5bfa590b060f2d3a747ee50c13", func := "croft/croftlaw.ScanRedoes", spec := "scanRedoes", unfollowed := true, recurses := true, plainKeys := false, apart := false }
def ScanRedoesSaid : Prop := scanRedoesRow.holds Try.pinned (OpenSpec.ofChange scanRedoesSpec)

/-- ITS FALSE NEIGHBOUR: 'it returns false'. Refute it at one input. -/
def scanRedoesWrong : ChangeSpec := { name := "scanRedoes", fn := fun _ => fun
  | [d] => { results := [.lit (.bool false)], args := [d] }
  | _ => none }
def ScanRedoesWrongFalsely : Prop := scanRedoesRow.holds Try.pinned (OpenSpec.ofChange scanRedoesWrong)

/-- 'croftlaw.ScanTrue': WHATEVER THE INPUT: true; the input reads as it did. -/
def scanTrueSpec : ChangeSpec := { name := "scanTrue", fn := fun _ => fun
  | [d] => { results := [.lit (.bool true)], args := [d] }
  | _ => none }
def scanTrueRow : OpenClaim := { program := "ytlpodahldpaniaa", sum := "4830944a20134adbe47499d5bb41d7af62c26c5bfa590b060f2d3a747ee50c13", func := "croft/croftlaw.ScanTrue", spec := "scanTrue", unfollowed := true, recurses := true, plainKeys := false, apart := false }
def ScanTrueSaid : Prop := scanTrueRow.holds Try.pinned (OpenSpec.ofChange scanTrueSpec)

/-- ITS FALSE NEIGHBOUR: 'it returns false'. Refute it at one input. -/
def scanTrueWrong : ChangeSpec := { name := "scanTrue", fn := fun _ => fun
  | [d] => { results := [.lit (.bool false)], args := [d] }
  | _ => none }
def ScanTrueWrongFalsely : Prop := scanTrueRow.holds Try.pinned (OpenSpec.ofChange scanTrueWrong)

/-- 'croftlaw.MendFew': WHATEVER THE INPUT: true; the input reads as it did. -/
def mendFewSpec : ChangeSpec := { name := "mendFew", fn := fun _ => fun
  | [d] => { results := [.lit (.bool true)], args := [d] }
  | _ => none }
def mendFewRow : OpenClaim := { program := "ytlpodahldpaniaa", sum := "4830944a20134adbe47499d5bb41d7af62c26c5bfa590b060f2d3a747ee50c13", func := "croft/croftlaw.MendFew", spec := "mendFew", unfollowed := true, recurses := true, plainKeys := false, apart := false }
def MendFewSaid : Prop := mendFewRow.holds Try.pinned (OpenSpec.ofChange mendFewSpec)

/-- ITS FALSE NEIGHBOUR: 'it returns false'. Refute it at one input. -/
def mendFewWrong : ChangeSpec := { name := "mendFew", fn := fun _ => fun
  | [d] => { results := [.lit (.bool false)], args := [d] }
  | _ => none }
def MendFewWrongFalsely : Prop := mendFewRow.holds Try.pinned (OpenSpec.ofChange mendFewWrong)

/-- 'croftlaw.MendOnce': WHATEVER THE INPUT: true; the input reads as it did. -/
def mendOnceSpec : ChangeSpec := { name := "mendOnce", fn := fun _ => fun
  | [d1, d2, d3] => { results := [.lit (.bool true)], args := [d1, d2, d3] }
  | _ => none }
def mendOnceRow : OpenClaim := { program := "ytlpodahldpaniaa", sum := "4830944a20134adbe47499d5bb41d7af62c26c5bfa590b060f2d3a747ee50c13", func := "croft/croftlaw.MendOnce", spec := "mendOnce", unfollowed := true, recurses := true, plainKeys := false, apart := false }
def MendOnceSaid : Prop := mendOnceRow.holds Try.pinned (OpenSpec.ofChange mendOnceSpec)

/-- ITS FALSE NEIGHBOUR: 'it returns false'. Refute it at one input. -/
def mendOnceWrong : ChangeSpec := { name := "mendOnce", fn := fun _ => fun
  | [d1, d2, d3] => { results := [.lit (.bool false)], args := [d1, d2, d3] }
  | _ => none }
def MendOnceWrongFalsely : Prop := mendOnceRow.holds Try.pinned (OpenSpec.ofChange mendOnceWrong)

/-- 'croftlaw.MendOften': WHATEVER THE INPUT: true; the input reads as it did. -/
def mendOftenSpec : ChangeSpec := { name := "mendOften", fn := fun _ => fun
  | [d1, d2, d3] => { results := [.lit (.bool true)], args := [d1, d2, d3] }
  | _ => none }
def mendOftenRow : OpenClaim := { program := "ytlpodahldpaniaa", sum := "4830944a20134adbe47499d5bb41d7af62c26c5bfa590b060f2d3a747ee50c13", func := "croft/croftlaw.MendOften", spec := "mendOften", unfollowed := true, recurses := true, plainKeys := false, apart := false }
def MendOftenSaid : Prop := mendOftenRow.holds Try.pinned (OpenSpec.ofChange mendOftenSpec)

/-- ITS FALSE NEIGHBOUR: 'it returns false'. Refute it at one input. -/
def mendOftenWrong : ChangeSpec := { name := "mendOften", fn := fun _ => fun
  | [d1, d2, d3] => { results := [.lit (.bool false)], args := [d1, d2, d3] }
  | _ => none }
def MendOftenWrongFalsely : Prop := mendOftenRow.holds Try.pinned (OpenSpec.ofChange mendOftenWrong)

/- THE SECOND FORM. 'bulk': how many values and letters a reading holds, each counted each time it is reached (what is shared counts as often as it is met; a slice's spare places count too). A statement '..UptoSaid' is the law's where the arguments, and the package variables that the reading takes, are together of bulk at most 1048576: NARROWER than '..Said'. Prove '..Said' where nothing that the law and all that it calls make is longer than what came in: it says more and counts as full. Else prove '..UptoSaid'. A law counts once. -/
mutual
def uptoBulk {H : Type} : DataW H → Nat
  | .lit (.string bytes) => bytes.length + 1
  | .lit _ => 1
  | .nil => 1
  | .ptr d => uptoBulk d + 1
  | .slice elems spare => uptoBulkAll elems + uptoBulkAll spare + 1
  | .agg parts => uptoBulkAll parts + 1
  | .iface _ d => uptoBulk d + 1
  | .map entries => uptoBulkEntries entries + 1
  | .held _ => 1
def uptoBulkAll {H : Type} : List (DataW H) → Nat
  | [] => 0
  | d :: r => uptoBulk d + uptoBulkAll r
def uptoBulkEntries {H : Type} : List (Lit × DataW H) → Nat
  | [] => 0
  | x :: r => uptoBulkEntry x + uptoBulkEntries r
def uptoBulkEntry {H : Type} : Lit × DataW H → Nat
  | (.string bytes, d) => bytes.length + uptoBulk d + 1
  | (_, d) => uptoBulk d + 1
 end
def uptoSmall : (H : Type) → List (DataW H) → Bool := fun _ ds => decide (uptoBulkAll ds ≤ 1048576)
def OpenSpec.upto (s : _root_.Go.ChangeSpec) : _root_.Go.OpenSpec := { _root_.Go.OpenSpec.ofChange s with cond := some uptoSmall }

/-- 'croftlaw.ScanTells', WHERE WHAT IT READS IS OF BULK AT MOST 1048576: true; the input reads as it did. -/
def scanTellsUptoRow : OpenClaim := { program := "ytlpodahldpaniaa", sum := "4830944a20134adbe47499d5bb41d7af62c26c5bfa590b060f2d3a747ee50c13", func := "croft/croftlaw.ScanTells", spec := "scanTells", unfollowed := true, recurses := true, plainKeys := false, apart := false, narrowed := true }
def ScanTellsUptoSaid : Prop := scanTellsUptoRow.holds Try.pinned (OpenSpec.upto scanTellsSpec)

/-- 'croftlaw.ScanRedoes', WHERE WHAT IT READS IS OF BULK AT MOST 1048576: true; the input reads as it did. -/
def scanRedoesUptoRow : OpenClaim := { program := "ytlpodahldpaniaa", sum := "4830944a20134adbe47499d5bb41d7af62c26c5bfa590b060f2d3a747ee50c13", func := "croft/croftlaw.ScanRedoes", spec := "scanRedoes", unfollowed := true, recurses := true, plainKeys := false, apart := false, narrowed := true }
def ScanRedoesUptoSaid : Prop := scanRedoesUptoRow.holds Try.pinned (OpenSpec.upto scanRedoesSpec)

/-- 'croftlaw.ScanTrue', WHERE WHAT IT READS IS OF BULK AT MOST 1048576: true; the input reads as it did. -/
def scanTrueUptoRow : OpenClaim := { program := "ytlpodahldpaniaa", sum := "4830944a20134adbe47499d5bb41d7af62c26c5bfa590b060f2d3a747ee50c13", func := "croft/croftlaw.ScanTrue", spec := "scanTrue", unfollowed := true, recurses := true, plainKeys := false, apart := false, narrowed := true }
def ScanTrueUptoSaid : Prop := scanTrueUptoRow.holds Try.pinned (OpenSpec.upto scanTrueSpec)

/-- 'croftlaw.MendFew', WHERE WHAT IT READS IS OF BULK AT MOST 1048576: true; the input reads as it did. -/
def mendFewUptoRow : OpenClaim := { program := "ytlpodahldpaniaa", sum := "4830944a20134adbe47499d5bb41d7af62c26c5bfa590b060f2d3a747ee50c13", func := "croft/croftlaw.MendFew", spec := "mendFew", unfollowed := true, recurses := true, plainKeys := false, apart := false, narrowed := true }
def MendFewUptoSaid : Prop := mendFewUptoRow.holds Try.pinned (OpenSpec.upto mendFewSpec)

/-- 'croftlaw.MendOnce', WHERE WHAT IT READS IS OF BULK AT MOST 1048576: true; the input reads as it did. -/
def mendOnceUptoRow : OpenClaim := { program := "ytlpodahldpaniaa", sum := "4830944a20134adbe47499d5bb41d7af62c26c5bfa590b060f2d3a747ee50c13", func := "croft/croftlaw.MendOnce", spec := "mendOnce", unfollowed := true, recurses := true, plainKeys := false, apart := false, narrowed := true }
def MendOnceUptoSaid : Prop := mendOnceUptoRow.holds Try.pinned (OpenSpec.upto mendOnceSpec)

/-- 'croftlaw.MendOften', WHERE WHAT IT READS IS OF BULK AT MOST 1048576: true; the input reads as it did. -/
def mendOftenUptoRow : OpenClaim := { program := "ytlpodahldpaniaa", sum := "4830944a20134adbe47499d5bb41d7af62c26c5bfa590b060f2d3a747ee50c13", func := "croft/croftlaw.MendOften", spec := "mendOften", unfollowed := true, recurses := true, plainKeys := false, apart := false, narrowed := true }
def MendOftenUptoSaid : Prop := mendOftenUptoRow.holds Try.pinned (OpenSpec.upto mendOftenSpec)

end Rows
end Go.Proofs.Ytlpodahldpaniaa
