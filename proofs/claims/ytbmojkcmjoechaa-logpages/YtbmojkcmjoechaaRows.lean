/-
  No cell of these rows narrows 'for every input' (looked for: loops, veiled, ifaces, maps, wideKeys, modest, calm, conditions, laid).
  DERIVED. THE GIVEN ROWS OF THIS SEAT. 6 by the template 'for every input the law returns true; each argument reads behind the call as it read before'; 0 by the template 'total and deterministic' (their statements: YtbmojkcmjoechaaTotals.lean).
  GIVEN WITH THE SEED: the statements are not yours to turn. If you find one false, say at which input.
  Laid BY PROGRAM, IN A SANDBOX (cutbox-rows.mjs): the forced cells as the released guide's own fill.sh prints them over the translation 54491df74c6332c0… (all of the seat's roots in one cut). By AI agents, Wed Nov 11 2026. No macro, syntax, notation, axiom, sorry.
-/
import Derived.Test.YtbmojkcmjoechaaChecked
import GoSem.Claim
import GoSem.ClaimJoined
import GoSem.ClaimMapViews
import Derived.JoinedTies
import Derived.KernelRfl
namespace Go.Proofs.Ytbmojkcmjoechaa
/- THE CELL 'sum', in the pinned program and in every row, IS THE sha256 OF THE DUMP (.gsa) THAT YtbmojkcmjoechaaProg.lean LOADS. Nothing in Lean hashes anything: it is a label: what it is worth is what the hold of that sum in a sandbox is worth. -/
noncomputable def Try.pinned : Pinned := { name := "ytbmojkcmjoechaa", sum := "54491df74c6332c0c8c3ef1ea10ae386421f2c492643e1b675cd672ba085a569", checked := Try.checked }
namespace Rows
def none {H : Type} : Left H := { results := [], args := [] }

/-- 'croftlaw.PageTells': WHATEVER THE INPUT: true; the input reads as it did. -/
def pageTellsSpec : ChangeSpec := { name := "pageTells", fn := fun _ => fun
  | [d1, d2, d3, d4, d5] => { results := [.lit (.bool true)], args := [d1, d2, d3, d4, d5] }
  | _ => none }
def pageTellsRow : OpenClaim := { program := "ytbmojkcmjoechaa", sum := "54491df74c6332c0c8c3ef1ea10ae386421f2c492643e1b675cd672ba085a569", func := "croft/croftlaw.PageTells", spec := "pageTells", unfollowed := true, recurses := true, plainKeys := false, apart := false }
def PageTellsSaid : Prop := pageTellsRow.holds Try.pinned (OpenSpec.ofChange pageTellsSpec)

/-- ITS FALSE NEIGHBOUR: 'it returns false'. Refute it at one input. -/
def pageTellsWrong : ChangeSpec := { name := "pageTells", fn := fun _ => fun
  | [d1, d2, d3, d4, d5] => { results := [.lit (.bool false)], args := [d1, d2, d3, d4, d5] }
  | _ => none }
def PageTellsWrongFalsely : Prop := pageTellsRow.holds Try.pinned (OpenSpec.ofChange pageTellsWrong)

/-- 'croftlaw.PageTrue': WHATEVER THE INPUT: true; the input reads as it did. -/
def pageTrueSpec : ChangeSpec := { name := "pageTrue", fn := fun _ => fun
  | [d1, d2, d3, d4] => { results := [.lit (.bool true)], args := [d1, d2, d3, d4] }
  | _ => none }
def pageTrueRow : OpenClaim := { program := "ytbmojkcmjoechaa", sum := "54491df74c6332c0c8c3ef1ea10ae386421f2c492643e1b675cd672ba085a569", func := "croft/croftlaw.PageTrue", spec := "pageTrue", unfollowed := true, recurses := true, plainKeys := false, apart := false }
def PageTrueSaid : Prop := pageTrueRow.holds Try.pinned (OpenSpec.ofChange pageTrueSpec)

/-- ITS FALSE NEIGHBOUR: 'it returns false'. Refute it at one input. -/
def pageTrueWrong : ChangeSpec := { name := "pageTrue", fn := fun _ => fun
  | [d1, d2, d3, d4] => { results := [.lit (.bool false)], args := [d1, d2, d3, d4] }
  | _ => none }
def PageTrueWrongFalsely : Prop := pageTrueRow.holds Try.pinned (OpenSpec.ofChange pageTrueWrong)

/-- 'croftlaw.RecTells': WHATEVER THE INPUT: true; the input reads as it did. -/
def recTellsSpec : ChangeSpec := { name := "recTells", fn := fun _ => fun
  | [d1, d2] => { results := [.lit (.bool true)], args := [d1, d2] }
  | _ => none }
def recTellsRow : OpenClaim := { program := "ytbmojkcmjoechaa", sum := "54491df74c6332c0c8c3ef1ea10ae386421f2c492643e1b675cd672ba085a569", func := "croft/croftlaw.RecTells", spec := "recTells", unfollowed := true, recurses := true, plainKeys := false, apart := false }
def RecTellsSaid : Prop := recTellsRow.holds Try.pinned (OpenSpec.ofChange recTellsSpec)

/-- ITS FALSE NEIGHBOUR: 'it returns false'. Refute it at one input. -/
def recTellsWrong : ChangeSpec := { name := "recTells", fn := fun _ => fun
  | [d1, d2] => { results := [.lit (.bool false)], args := [d1, d2] }
  | _ => none }
def RecTellsWrongFalsely : Prop := recTellsRow.holds Try.pinned (OpenSpec.ofChange recTellsWrong)

/-- 'croftlaw.RecTrue': WHATEVER THE INPUT: true; the input reads as it did. -/
def recTrueSpec : ChangeSpec := { name := "recTrue", fn := fun _ => fun
  | [d1, d2, d3] => { results := [.lit (.bool true)], args := [d1, d2, d3] }
  | _ => none }
def recTrueRow : OpenClaim := { program := "ytbmojkcmjoechaa", sum := "54491df74c6332c0c8c3ef1ea10ae386421f2c492643e1b675cd672ba085a569", func := "croft/croftlaw.RecTrue", spec := "recTrue", unfollowed := true, recurses := true, plainKeys := false, apart := false }
def RecTrueSaid : Prop := recTrueRow.holds Try.pinned (OpenSpec.ofChange recTrueSpec)

/-- ITS FALSE NEIGHBOUR: 'it returns false'. Refute it at one input. -/
def recTrueWrong : ChangeSpec := { name := "recTrue", fn := fun _ => fun
  | [d1, d2, d3] => { results := [.lit (.bool false)], args := [d1, d2, d3] }
  | _ => none }
def RecTrueWrongFalsely : Prop := recTrueRow.holds Try.pinned (OpenSpec.ofChange recTrueWrong)

/-- 'croftlaw.LogChecks': WHATEVER THE INPUT: true; the input reads as it did. -/
def logChecksSpec : ChangeSpec := { name := "logChecks", fn := fun _ => fun
  | [d] => { results := [.lit (.bool true)], args := [d] }
  | _ => none }
def logChecksRow : OpenClaim := { program := "ytbmojkcmjoechaa", sum := "54491df74c6332c0c8c3ef1ea10ae386421f2c492643e1b675cd672ba085a569", func := "croft/croftlaw.LogChecks", spec := "logChecks", unfollowed := true, recurses := true, plainKeys := false, apart := false }
def LogChecksSaid : Prop := logChecksRow.holds Try.pinned (OpenSpec.ofChange logChecksSpec)

/-- ITS FALSE NEIGHBOUR: 'it returns false'. Refute it at one input. -/
def logChecksWrong : ChangeSpec := { name := "logChecks", fn := fun _ => fun
  | [d] => { results := [.lit (.bool false)], args := [d] }
  | _ => none }
def LogChecksWrongFalsely : Prop := logChecksRow.holds Try.pinned (OpenSpec.ofChange logChecksWrong)

/-- 'croftlaw.LogPages': WHATEVER THE INPUT: true; the input reads as it did. -/
def logPagesSpec : ChangeSpec := { name := "logPages", fn := fun _ => fun
  | [d] => { results := [.lit (.bool true)], args := [d] }
  | _ => none }
def logPagesRow : OpenClaim := { program := "ytbmojkcmjoechaa", sum := "54491df74c6332c0c8c3ef1ea10ae386421f2c492643e1b675cd672ba085a569", func := "croft/croftlaw.LogPages", spec := "logPages", unfollowed := true, recurses := true, plainKeys := false, apart := false }
def LogPagesSaid : Prop := logPagesRow.holds Try.pinned (OpenSpec.ofChange logPagesSpec)

/-- ITS FALSE NEIGHBOUR: 'it returns false'. Refute it at one input. -/
def logPagesWrong : ChangeSpec := { name := "logPages", fn := fun _ => fun
  | [d] => { results := [.lit (.bool false)], args := [d] }
  | _ => none }
def LogPagesWrongFalsely : Prop := logPagesRow.holds Try.pinned (OpenSpec.ofChange logPagesWrong)

/- THE SECOND FORM. 'bulk': how many values and letters a reading holds, each counted each time it is reached (what is shared counts as often as it is met; a slice's spare places count too). A statement '..UptoSaid' is the law's where the arguments, and the package variables that the reading takes, are together of bulk at most 1048576: NARROWER than '..Said'. Prove '..Said' where nothing that the law and all that it calls make is longer than what came in: it says more and counts as full. Else prove '..UptoSaid'. A law counts once. -/
mutual
def uptoBulk {H : Type} : DataW H → Nat
  | .lit (.string bytes) => bytes.length + 1
  | .lit _ => 1
  | .nil => 1
  | .ptr d => uptoBulk d + 1
  | .slice elems spare => uptoBulkAll elems + uptoBulkAll spare + 1
  | .agg parts => uptoBulkAll parts + 1
  | .iface _ d => uptoBulk d + 1
  | .map entries => uptoBulkEntries entries + 1
  | .held _ => 1
def uptoBulkAll {H : Type} : List (DataW H) → Nat
  | [] => 0
  | d :: r => uptoBulk d + uptoBulkAll r
def uptoBulkEntries {H : Type} : List (Lit × DataW H) → Nat
  | [] => 0
  | x :: r => uptoBulkEntry x + uptoBulkEntries r
def uptoBulkEntry {H : Type} : Lit × DataW H → Nat
  | (.string bytes, d) => bytes.length + uptoBulk d + 1
  | (_, d) => uptoBulk d + 1
 end
def uptoSmall : (H : Type) → List (DataW H) → Bool := fun _ ds => decide (uptoBulkAll ds ≤ 1048576)
def OpenSpec.upto (s : _root_.Go.ChangeSpec) : _root_.Go.OpenSpec := { _root_.Go.OpenSpec.ofChange s with cond := some uptoSmall }

/-- 'croftlaw.PageTells', WHERE WHAT IT READS IS OF BULK AT MOST 1048576: true; the input reads as it did. -/
def pageTellsUptoRow : OpenClaim := { program := "ytbmojkcmjoechaa", sum := "54491df74c6332c0c8c3ef1ea10ae386421f2c492643e1b675cd672ba085a569", func := "croft/croftlaw.PageTells", spec := "pageTells", unfollowed := true, recurses := true, plainKeys := false, apart := false, narrowed := true }
def PageTellsUptoSaid : Prop := pageTellsUptoRow.holds Try.pinned (OpenSpec.upto pageTellsSpec)

/-- 'croftlaw.PageTrue', WHERE WHAT IT READS IS OF BULK AT MOST 1048576: true; the input reads as it did. -/
def pageTrueUptoRow : OpenClaim := { program := "ytbmojkcmjoechaa", sum := "54491df74c6332c0c8c3ef1ea10ae386421f2c492643e1b675cd672ba085a569", func := "croft/croftlaw.PageTrue", spec := "pageTrue", unfollowed := true, recurses := true, plainKeys := false, apart := false, narrowed := true }
def PageTrueUptoSaid : Prop := pageTrueUptoRow.holds Try.pinned (OpenSpec.upto pageTrueSpec)

/-- 'croftlaw.RecTells', WHERE WHAT IT READS IS OF BULK AT MOST 1048576: true; the input reads as it did. -/
def recTellsUptoRow : OpenClaim := { program := "ytbmojkcmjoechaa", sum := "54491df74c6332c0c8c3ef1ea10ae386421f2c492643e1b675cd672ba085a569", func := "croft/croftlaw.RecTells", spec := "recTells", unfollowed := true, recurses := true, plainKeys := false, apart := false, narrowed := true }
def RecTellsUptoSaid : Prop := recTellsUptoRow.holds Try.pinned (OpenSpec.upto recTellsSpec)

/-- 'croftlaw.RecTrue', WHERE WHAT IT READS IS OF BULK AT MOST 1048576: true; the input reads as it did. -/
def recTrueUptoRow : OpenClaim := { program := "ytbmojkcmjoechaa", sum := "54491df74c6332c0c8c3ef1ea10ae386421f2c492643e1b675cd672ba085a569", func := "croft/croftlaw.RecTrue", spec := "recTrue", unfollowed := true, recurses := true, plainKeys := false, apart := false, narrowed := true }
def RecTrueUptoSaid : Prop := recTrueUptoRow.holds Try.pinned (OpenSpec.upto recTrueSpec)

/-- 'croftlaw.LogChecks', WHERE WHAT IT READS IS OF BULK AT MOST 1048576: true; the input reads as it did. -/
def logChecksUptoRow : OpenClaim := { program := "ytbmojkcmjoechaa", sum := "54491df74c6332c0c8c3ef1ea10ae386421f2c492643e1b675cd672ba085a569", func := "croft/croftlaw.LogChecks", spec := "logChecks", unfollowed := true, recurses := true, plainKeys := false, apart := false, narrowed := true }
def LogChecksUptoSaid : Prop := logChecksUptoRow.holds Try.pinned (OpenSpec.upto logChecksSpec)

/-- 'croftlaw.LogPages', WHERE WHAT IT READS IS OF BULK AT MOST 1048576: true; the input reads as it did. -/
def logPagesUptoRow : OpenClaim := { program := "ytbmojkcmjoechaa", sum := "54491df74c6332c0c8c3ef1ea10ae386421f2c492643e1b675cd672ba085a569", func := "croft/croftlaw.LogPages", spec := "logPages", unfollowed := true, recurses := true, plainKeys := false, apart := false, narrowed := true }
def LogPagesUptoSaid : Prop := logPagesUptoRow.holds Try.pinned (OpenSpec.upto logPagesSpec)

end Rows
end Go.Proofs.Ytbmojkcmjoechaa
