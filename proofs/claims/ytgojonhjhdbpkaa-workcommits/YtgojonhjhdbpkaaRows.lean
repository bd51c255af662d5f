/-
  No cell of these rows narrows 'for every input' (looked for: loops, veiled, ifaces, maps, wideKeys, modest, calm, conditions, laid).
  DERIVED. THE GIVEN ROWS OF THIS SEAT. 14 by the template 'for every input the law returns true; each argument reads behind the call as it read before'; 0 by the template 'total and deterministic' (their statements: YtgojonhjhdbpkaaTotals.lean).
  GIVEN WITH THE SEED: the statements are not yours to turn. If you find one false, say at which input.
  Laid BY PROGRAM, IN A SANDBOX (cutbox-rows.mjs): the forced cells as the released guide's own fill.sh prints them over the translation 57b9c00f02075963… (all of the seat's roots in one cut). By AI agents, Wed Nov 11 2026. No macro, syntax, notation, axiom, sorry.
-/
import Derived.Test.YtgojonhjhdbpkaaChecked
import GoSem.Claim
import GoSem.ClaimJoined
import GoSem.ClaimMapViews
import Derived.JoinedTies
import Derived.KernelRfl
namespace Go.Proofs.Ytgojonhjhdbpkaa
/- THE CELL 'sum', in the pinned program and in every row, IS THE sha256 OF THE DUMP (.gsa) THAT YtgojonhjhdbpkaaProg.lean LOADS. Nothing in Lean hashes anything: it is a label: what it is worth is what the hold of that sum in a sandbox is worth. -/
noncomputable def Try.pinned : Pinned := { name := "ytgojonhjhdbpkaa", sum := "57b9c00f0207596392a6970b306662dc7b02dbbada2b510d25f518614b61b994", checked := Try.checked }
namespace Rows
def none {H : Type} : Left H := { results := [], args := [] }

/-- 'croftlaw.LogChecks': WHATEVER THE INPUT: true; the input reads as it did. -/
def logChecksSpec : ChangeSpec := { name := "logChecks", fn := fun _ => fun
  | [d] => { results := [.lit (.bool true)], args := [d] }
  | _ => none }
def logChecksRow : OpenClaim := { program := "ytgojonhjhdbpkaa", sum := "57b9c00f0207596392a6970b306662dc7b02dbbada2b510d25f518614b61b994", func := "croft/croftlaw.LogChecks", spec := "logChecks", unfollowed := true, recurses := true, plainKeys := false, apart := false }
def LogChecksSaid : Prop := logChecksRow.holds Try.pinned (OpenSpec.ofChange logChecksSpec)

/-- ITS FALSE NEIGHBOUR: 'it returns false'. Refute it at one input. -/
def logChecksWrong : ChangeSpec := { name := "logChecks", fn := fun _ => fun
  | [d] => { results := [.lit (.bool false)], args := [d] }
  | _ => none }
def LogChecksWrongFalsely : Prop := logChecksRow.holds Try.pinned (OpenSpec.ofChange logChecksWrong)

/-- 'croftlaw.LogPages': WHATEVER THE INPUT: true; the input reads as it did. -/
def logPagesSpec : ChangeSpec := { name := "logPages", fn := fun _ => fun
  | [d] => { results := [.lit (.bool true)], args := [d] }
  | _ => none }
def logPagesRow : OpenClaim := { program := "ytgojonhjhdbpkaa", sum := "57b9c00f0207596392a6970b306662dc7b02dbbada2b510d25f518614b61b994", func := "croft/croftlaw.LogPages", spec := "logPages", unfollowed := true, recurses := true, plainKeys := false, apart := false }
def LogPagesSaid : Prop := logPagesRow.holds Try.pinned (OpenSpec.ofChange logPagesSpec)

/-- ITS FALSE NEIGHBOUR: 'it returns false'. Refute it at one input. -/
def logPagesWrong : ChangeSpec := { name := "logPages", fn := fun _ => fun
  | [d] => { results := [.lit (.bool false)], args := [d] }
  | _ => none }
def LogPagesWrongFalsely : Prop := logPagesRow.holds Try.pinned (OpenSpec.ofChange logPagesWrong)

/-- 'croftlaw.LogStates': WHATEVER THE INPUT: true; the input reads as it did. -/
def logStatesSpec : ChangeSpec := { name := "logStates", fn := fun _ => fun
  | [d1, d2] => { results := [.lit (.bool true)], args := [d1, d2] }
  | _ => none }
def logStatesRow : OpenClaim := { program := "ytgojonhjhdbpkaa", sum := "57b9c00f0207596392a6970b306662dc7b02dbbada2b510d25f518614b61b994", func := "croft/croftlaw.LogStates", spec := "logStates", unfollowed := true, recurses := true, plainKeys := false, apart := false }
def LogStatesSaid : Prop := logStatesRow.holds Try.pinned (OpenSpec.ofChange logStatesSpec)

/-- ITS FALSE NEIGHBOUR: 'it returns false'. Refute it at one input. -/
def logStatesWrong : ChangeSpec := { name := "logStates", fn := fun _ => fun
  | [d1, d2] => { results := [.lit (.bool false)], args := [d1, d2] }
  | _ => none }
def LogStatesWrongFalsely : Prop := logStatesRow.holds Try.pinned (OpenSpec.ofChange logStatesWrong)

/-- 'croftlaw.LogTrue': WHATEVER THE INPUT: true; the input reads as it did. -/
def logTrueSpec : ChangeSpec := { name := "logTrue", fn := fun _ => fun
  | [d1, d2, d3] => { results := [.lit (.bool true)], args := [d1, d2, d3] }
  | _ => none }
def logTrueRow : OpenClaim := { program := "ytgojonhjhdbpkaa", sum := "57b9c00f0207596392a6970b306662dc7b02dbbada2b510d25f518614b61b994", func := "croft/croftlaw.LogTrue", spec := "logTrue", unfollowed := true, recurses := true, plainKeys := false, apart := false }
def LogTrueSaid : Prop := logTrueRow.holds Try.pinned (OpenSpec.ofChange logTrueSpec)

/-- ITS FALSE NEIGHBOUR: 'it returns false'. Refute it at one input. -/
def logTrueWrong : ChangeSpec := { name := "logTrue", fn := fun _ => fun
  | [d1, d2, d3] => { results := [.lit (.bool false)], args := [d1, d2, d3] }
  | _ => none }
def LogTrueWrongFalsely : Prop := logTrueRow.holds Try.pinned (OpenSpec.ofChange logTrueWrong)

/-- 'croftlaw.LogGone': WHATEVER THE INPUT: true; the input reads as it did. -/
def logGoneSpec : ChangeSpec := { name := "logGone", fn := fun _ => fun
  | [d1, d2] => { results := [.lit (.bool true)], args := [d1, d2] }
  | _ => none }
def logGoneRow : OpenClaim := { program := "ytgojonhjhdbpkaa", sum := "57b9c00f0207596392a6970b306662dc7b02dbbada2b510d25f518614b61b994", func := "croft/croftlaw.LogGone", spec := "logGone", unfollowed := true, recurses := true, plainKeys := false, apart := false }
def LogGoneSaid : Prop := logGoneRow.holds Try.pinned (OpenSpec.ofChange logGoneSpec)

/-- ITS FALSE NEIGHBOUR: 'it returns false'. Refute it at one input. -/
def logGoneWrong : ChangeSpec := { name := "logGone", fn := fun _ => fun
  | [d1, d2] => { results := [.lit (.bool false)], args := [d1, d2] }
  | _ => none }
def LogGoneWrongFalsely : Prop := logGoneRow.holds Try.pinned (OpenSpec.ofChange logGoneWrong)

/-- 'croftlaw.LogAlone': WHATEVER THE INPUT: true; the input reads as it did. -/
def logAloneSpec : ChangeSpec := { name := "logAlone", fn := fun _ => fun
  | [d1, d2, d3] => { results := [.lit (.bool true)], args := [d1, d2, d3] }
  | _ => none }
def logAloneRow : OpenClaim := { program := "ytgojonhjhdbpkaa", sum := "57b9c00f0207596392a6970b306662dc7b02dbbada2b510d25f518614b61b994", func := "croft/croftlaw.LogAlone", spec := "logAlone", unfollowed := true, recurses := true, plainKeys := false, apart := false }
def LogAloneSaid : Prop := logAloneRow.holds Try.pinned (OpenSpec.ofChange logAloneSpec)

/-- ITS FALSE NEIGHBOUR: 'it returns false'. Refute it at one input. -/
def logAloneWrong : ChangeSpec := { name := "logAlone", fn := fun _ => fun
  | [d1, d2, d3] => { results := [.lit (.bool false)], args := [d1, d2, d3] }
  | _ => none }
def LogAloneWrongFalsely : Prop := logAloneRow.holds Try.pinned (OpenSpec.ofChange logAloneWrong)

/-- 'croftlaw.ModelTells': WHATEVER THE INPUT: true; the input reads as it did. -/
def modelTellsSpec : ChangeSpec := { name := "modelTells", fn := fun _ => fun
  | [d] => { results := [.lit (.bool true)], args := [d] }
  | _ => none }
def modelTellsRow : OpenClaim := { program := "ytgojonhjhdbpkaa", sum := "57b9c00f0207596392a6970b306662dc7b02dbbada2b510d25f518614b61b994", func := "croft/croftlaw.ModelTells", spec := "modelTells", unfollowed := true, recurses := true, plainKeys := false, apart := false }
def ModelTellsSaid : Prop := modelTellsRow.holds Try.pinned (OpenSpec.ofChange modelTellsSpec)

/-- ITS FALSE NEIGHBOUR: 'it returns false'. Refute it at one input. -/
def modelTellsWrong : ChangeSpec := { name := "modelTells", fn := fun _ => fun
  | [d] => { results := [.lit (.bool false)], args := [d] }
  | _ => none }
def ModelTellsWrongFalsely : Prop := modelTellsRow.holds Try.pinned (OpenSpec.ofChange modelTellsWrong)

/-- 'croftlaw.ModelTrue': WHATEVER THE INPUT: true; the input reads as it did. -/
def modelTrueSpec : ChangeSpec := { name := "modelTrue", fn := fun _ => fun
  | [d] => { results := [.lit (.bool true)], args := [d] }
  | _ => none }
def modelTrueRow : OpenClaim := { program := "ytgojonhjhdbpkaa", sum := "57b9c00f0207596392a6970b306662dc7b02dbbada2b510d25f518614b61b994", func := "croft/croftlaw.ModelTrue", spec := "modelTrue", unfollowed := true, recurses := true, plainKeys := false, apart := false }
def ModelTrueSaid : Prop := modelTrueRow.holds Try.pinned (OpenSpec.ofChange modelTrueSpec)

/-- ITS FALSE NEIGHBOUR: 'it returns false'. Refute it at one input. -/
def modelTrueWrong : ChangeSpec := { name := "modelTrue", fn := fun _ => fun
  | [d] => { results := [.lit (.bool false)], args := [d] }
  | _ => none }
def ModelTrueWrongFalsely : Prop := modelTrueRow.holds Try.pinned (OpenSpec.ofChange modelTrueWrong)

/-- 'croftlaw.ModelMore': WHATEVER THE INPUT: true; the input reads as it did. -/
def modelMoreSpec : ChangeSpec := { name := "modelMore", fn := fun _ => fun
  | [d1, d2] => { results := [.lit (.bool true)], args := [d1, d2] }
  | _ => none }
def modelMoreRow : OpenClaim := { program := "ytgojonhjhdbpkaa", sum := "57b9c00f0207596392a6970b306662dc7b02dbbada2b510d25f518614b61b994", func := "croft/croftlaw.ModelMore", spec := "modelMore", unfollowed := true, recurses := true, plainKeys := false, apart := false }
def ModelMoreSaid : Prop := modelMoreRow.holds Try.pinned (OpenSpec.ofChange modelMoreSpec)

/-- ITS FALSE NEIGHBOUR: 'it returns false'. Refute it at one input. -/
def modelMoreWrong : ChangeSpec := { name := "modelMore", fn := fun _ => fun
  | [d1, d2] => { results := [.lit (.bool false)], args := [d1, d2] }
  | _ => none }
def ModelMoreWrongFalsely : Prop := modelMoreRow.holds Try.pinned (OpenSpec.ofChange modelMoreWrong)

/-- 'croftlaw.WorldTells': WHATEVER THE INPUT: true; the input reads as it did. -/
def worldTellsSpec : ChangeSpec := { name := "worldTells", fn := fun _ => fun
  | [d] => { results := [.lit (.bool true)], args := [d] }
  | _ => none }
def worldTellsRow : OpenClaim := { program := "ytgojonhjhdbpkaa", sum := "57b9c00f0207596392a6970b306662dc7b02dbbada2b510d25f518614b61b994", func := "croft/croftlaw.WorldTells", spec := "worldTells", unfollowed := true, recurses := true, plainKeys := false, apart := false }
def WorldTellsSaid : Prop := worldTellsRow.holds Try.pinned (OpenSpec.ofChange worldTellsSpec)

/-- ITS FALSE NEIGHBOUR: 'it returns false'. Refute it at one input. -/
def worldTellsWrong : ChangeSpec := { name := "worldTells", fn := fun _ => fun
  | [d] => { results := [.lit (.bool false)], args := [d] }
  | _ => none }
def WorldTellsWrongFalsely : Prop := worldTellsRow.holds Try.pinned (OpenSpec.ofChange worldTellsWrong)

/-- 'croftlaw.WorkWrites': WHATEVER THE INPUT: true; the input reads as it did. -/
def workWritesSpec : ChangeSpec := { name := "workWrites", fn := fun _ => fun
  | [d1, d2, d3, d4, d5] => { results := [.lit (.bool true)], args := [d1, d2, d3, d4, d5] }
  | _ => none }
def workWritesRow : OpenClaim := { program := "ytgojonhjhdbpkaa", sum := "57b9c00f0207596392a6970b306662dc7b02dbbada2b510d25f518614b61b994", func := "croft/croftlaw.WorkWrites", spec := "workWrites", unfollowed := true, recurses := true, plainKeys := false, apart := false }
def WorkWritesSaid : Prop := workWritesRow.holds Try.pinned (OpenSpec.ofChange workWritesSpec)

/-- ITS FALSE NEIGHBOUR: 'it returns false'. Refute it at one input. -/
def workWritesWrong : ChangeSpec := { name := "workWrites", fn := fun _ => fun
  | [d1, d2, d3, d4, d5] => { results := [.lit (.bool false)], args := [d1, d2, d3, d4, d5] }
  | _ => none }
def WorkWritesWrongFalsely : Prop := workWritesRow.holds Try.pinned (OpenSpec.ofChange workWritesWrong)

/-- 'croftlaw.WorkCommits': WHATEVER THE INPUT: true; the input reads as it did. -/
def workCommitsSpec : ChangeSpec := { name := "workCommits", fn := fun _ => fun
  | [d1, d2] => { results := [.lit (.bool true)], args := [d1, d2] }
  | _ => none }
def workCommitsRow : OpenClaim := { program := "ytgojonhjhdbpkaa", sum := "57b9c00f0207596392a6970b306662dc7b02dbbada2b510d25f518614b61b994", func := "croft/croftlaw.WorkCommits", spec := "workCommits", unfollowed := true, recurses := true, plainKeys := false, apart := false }
def WorkCommitsSaid : Prop := workCommitsRow.holds Try.pinned (OpenSpec.ofChange workCommitsSpec)

/-- ITS FALSE NEIGHBOUR: 'it returns false'. Refute it at one input. -/
def workCommitsWrong : ChangeSpec := { name := "workCommits", fn := fun _ => fun
  | [d1, d2] => { results := [.lit (.bool false)], args := [d1, d2] }
  | _ => none }
def WorkCommitsWrongFalsely : Prop := workCommitsRow.holds Try.pinned (OpenSpec.ofChange workCommitsWrong)

/-- 'croftlaw.WorkTrue': WHATEVER THE INPUT: true; the input reads as it did. -/
def workTrueSpec : ChangeSpec := { name := "workTrue", fn := fun _ => fun
  | [d1, d2, d3, d4, d5] => { results := [.lit (.bool true)], args := [d1, d2, d3, d4, d5] }
  | _ => none }
def workTrueRow : OpenClaim := { program := "ytgojonhjhdbpkaa", sum := "57b9c00f0207596392a6970b306662dc7b02dbbada2b510d25f518614b61b994", func := "croft/croftlaw.WorkTrue", spec := "workTrue", unfollowed := true, recurses := true, plainKeys := false, apart := false }
def WorkTrueSaid : Prop := workTrueRow.holds Try.pinned (OpenSpec.ofChange workTrueSpec)

/-- ITS FALSE NEIGHBOUR: 'it returns false'. Refute it at one input. -/
def workTrueWrong : ChangeSpec := { name := "workTrue", fn := fun _ => fun
  | [d1, d2, d3, d4, d5] => { results := [.lit (.bool false)], args := [d1, d2, d3, d4, d5] }
  | _ => none }
def WorkTrueWrongFalsely : Prop := workTrueRow.holds Try.pinned (OpenSpec.ofChange workTrueWrong)

/-- 'croftlaw.WorkWins': WHATEVER THE INPUT: true; the input reads as it did. -/
def workWinsSpec : ChangeSpec := { name := "workWins", fn := fun _ => fun
  | [d1, d2] => { results := [.lit (.bool true)], args := [d1, d2] }
  | _ => none }
def workWinsRow : OpenClaim := { program := "ytgojonhjhdbpkaa", sum := "57b9c00f0207596392a6970b306662dc7b02dbbada2b510d25f518614b61b994", func := "croft/croftlaw.WorkWins", spec := "workWins", unfollowed := true, recurses := true, plainKeys := false, apart := false }
def WorkWinsSaid : Prop := workWinsRow.holds Try.pinned (OpenSpec.ofChange workWinsSpec)

/-- ITS FALSE NEIGHBOUR: 'it returns false'. Refute it at one input. -/
def workWinsWrong : ChangeSpec := { name := "workWins", fn := fun _ => fun
  | [d1, d2] => { results := [.lit (.bool false)], args := [d1, d2] }
  | _ => none }
def WorkWinsWrongFalsely : Prop := workWinsRow.holds Try.pinned (OpenSpec.ofChange workWinsWrong)

/- THE SECOND FORM. 'bulk': how many values and letters a reading holds, each counted each time it is reached (what is shared counts as often as it is met; a slice's spare places count too). A statement '..UptoSaid' is the law's where the arguments, and the package variables that the reading takes, are together of bulk at most 1048576: NARROWER than '..Said'. Prove '..Said' where nothing that the law and all that it calls make is longer than what came in: it says more and counts as full. Else prove '..UptoSaid'. A law counts once. -/
mutual
def uptoBulk {H : Type} : DataW H → Nat
  | .lit (.string bytes) => bytes.length + 1
  | .lit _ => 1
  | .nil => 1
  | .ptr d => uptoBulk d + 1
  | .slice elems spare => uptoBulkAll elems + uptoBulkAll spare + 1
  | .agg parts => uptoBulkAll parts + 1
  | .iface _ d => uptoBulk d + 1
  | .map entries => uptoBulkEntries entries + 1
  | .held _ => 1
def uptoBulkAll {H : Type} : List (DataW H) → Nat
  | [] => 0
  | d :: r => uptoBulk d + uptoBulkAll r
def uptoBulkEntries {H : Type} : List (Lit × DataW H) → Nat
  | [] => 0
  | x :: r => uptoBulkEntry x + uptoBulkEntries r
def uptoBulkEntry {H : Type} : Lit × DataW H → Nat
  | (.string bytes, d) => bytes.length + uptoBulk d + 1
  | (_, d) => uptoBulk d + 1
 end
def uptoSmall : (H : Type) → List (DataW H) → Bool := fun _ ds => decide (uptoBulkAll ds ≤ 1048576)
def OpenSpec.upto (s : _root_.Go.ChangeSpec) : _root_.Go.OpenSpec := { _root_.Go.OpenSpec.ofChange s with cond := some uptoSmall }

/-- 'croftlaw.LogChecks', WHERE WHAT IT READS IS OF BULK AT MOST 1048576: true; the input reads as it did. -/
def logChecksUptoRow : OpenClaim := { program := "ytgojonhjhdbpkaa", sum := "57b9c00f0207596392a6970b306662dc7b02dbbada2b510d25f518614b61b994", func := "croft/croftlaw.LogChecks", spec := "logChecks", unfollowed := true, recurses := true, plainKeys := false, apart := false, narrowed := true }
def LogChecksUptoSaid : Prop := logChecksUptoRow.holds Try.pinned (OpenSpec.upto logChecksSpec)

/-- 'croftlaw.LogPages', WHERE WHAT IT READS IS OF BULK AT MOST 1048576: true; the input reads as it did. -/
def logPagesUptoRow : OpenClaim := { program := "ytgojonhjhdbpkaa", sum := "57b9c00f0207596392a6970b306662dc7b02dbbada2b510d25f518614b61b994", func := "croft/croftlaw.LogPages", spec := "logPages", unfollowed := true, recurses := true, plainKeys := false, apart := false, narrowed := true }
def LogPagesUptoSaid : Prop := logPagesUptoRow.holds Try.pinned (OpenSpec.upto logPagesSpec)

/-- 'croftlaw.LogStates', WHERE WHAT IT READS IS OF BULK AT MOST 1048576: true; the input reads as it did. -/
def logStatesUptoRow : OpenClaim := { program := "ytgojonhjhdbpkaa", sum := "57b9c00f0207596392a6970b306662dc7b02dbbada2b510d25f518614b61b994", func := "croft/croftlaw.LogStates", spec := "logStates", unfollowed := true, recurses := true, plainKeys := false, apart := false, narrowed := true }
def LogStatesUptoSaid : Prop := logStatesUptoRow.holds Try.pinned (OpenSpec.upto logStatesSpec)

/-- 'croftlaw.LogTrue', WHERE WHAT IT READS IS OF BULK AT MOST 1048576: true; the input reads as it did. -/
def logTrueUptoRow : OpenClaim := { program := "ytgojonhjhdbpkaa", sum := "57b9c00f0207596392a6970b306662dc7b02dbbada2b510d25f518614b61b994", func := "croft/croftlaw.LogTrue", spec := "logTrue", unfollowed := true, recurses := true, plainKeys := false, apart := false, narrowed := true }
def LogTrueUptoSaid : Prop := logTrueUptoRow.holds Try.pinned (OpenSpec.upto logTrueSpec)

/-- 'croftlaw.LogGone', WHERE WHAT IT READS IS OF BULK AT MOST 1048576: true; the input reads as it did. -/
def logGoneUptoRow : OpenClaim := { program := "ytgojonhjhdbpkaa", sum := "57b9c00f0207596392a6970b306662dc7b02dbbada2b510d25f518614b61b994", func := "croft/croftlaw.LogGone", spec := "logGone", unfollowed := true, recurses := true, plainKeys := false, apart := false, narrowed := true }
def LogGoneUptoSaid : Prop := logGoneUptoRow.holds Try.pinned (OpenSpec.upto logGoneSpec)

/-- 'croftlaw.LogAlone', WHERE WHAT IT READS IS OF BULK AT MOST 1048576: true; the input reads as it did. -/
def logAloneUptoRow : OpenClaim := { program := "ytgojonhjhdbpkaa", sum := "57b9c00f0207596392a6970b306662dc7b02dbbada2b510d25f518614b61b994", func := "croft/croftlaw.LogAlone", spec := "logAlone", unfollowed := true, recurses := true, plainKeys := false, apart := false, narrowed := true }
def LogAloneUptoSaid : Prop := logAloneUptoRow.holds Try.pinned (OpenSpec.upto logAloneSpec)

/-- 'croftlaw.ModelTells', WHERE WHAT IT READS IS OF BULK AT MOST 1048576: true; the input reads as it did. -/
def modelTellsUptoRow : OpenClaim := { program := "ytgojonhjhdbpkaa", sum := "57b9c00f0207596392a6970b306662dc7b02dbbada2b510d25f518614b61b994", func := "croft/croftlaw.ModelTells", spec := "modelTells", unfollowed := true, recurses := true, plainKeys := false, apart := false, narrowed := true }
def ModelTellsUptoSaid : Prop := modelTellsUptoRow.holds Try.pinned (OpenSpec.upto modelTellsSpec)

/-- 'croftlaw.ModelTrue', WHERE WHAT IT READS IS OF BULK AT MOST 1048576: true; the input reads as it did. -/
def modelTrueUptoRow : OpenClaim := { program := "ytgojonhjhdbpkaa", sum := "57b9c00f0207596392a6970b306662dc7b02dbbada2b510d25f518614b61b994", func := "croft/croftlaw.ModelTrue", spec := "modelTrue", unfollowed := true, recurses := true, plainKeys := false, apart := false, narrowed := true }
def ModelTrueUptoSaid : Prop := modelTrueUptoRow.holds Try.pinned (OpenSpec.upto modelTrueSpec)

/-- 'croftlaw.ModelMore', WHERE WHAT IT READS IS OF BULK AT MOST 1048576: true; the input reads as it did. -/
def modelMoreUptoRow : OpenClaim := { program := "ytgojonhjhdbpkaa", sum := "57b9c00f0207596392a6970b306662dc7b02dbbada2b510d25f518614b61b994", func := "croft/croftlaw.ModelMore", spec := "modelMore", unfollowed := true, recurses := true, plainKeys := false, apart := false, narrowed := true }
def ModelMoreUptoSaid : Prop := modelMoreUptoRow.holds Try.pinned (OpenSpec.upto modelMoreSpec)

/-- 'croftlaw.WorldTells', WHERE WHAT IT READS IS OF BULK AT MOST 1048576: true; the input reads as it did. -/
def worldTellsUptoRow : OpenClaim := { program := "ytgojonhjhdbpkaa", sum := "57b9c00f0207596392a6970b306662dc7b02dbbada2b510d25f518614b61b994", func := "croft/croftlaw.WorldTells", spec := "worldTells", unfollowed := true, recurses := true, plainKeys := false, apart := false, narrowed := true }
def WorldTellsUptoSaid : Prop := worldTellsUptoRow.holds Try.pinned (OpenSpec.upto worldTellsSpec)

/-- 'croftlaw.WorkWrites', WHERE WHAT IT READS IS OF BULK AT MOST 1048576: true; the input reads as it did. -/
def workWritesUptoRow : OpenClaim := { program := "ytgojonhjhdbpkaa", sum := "57b9c00f0207596392a6970b306662dc7b02dbbada2b510d25f518614b61b994", func := "croft/croftlaw.WorkWrites", spec := "workWrites", unfollowed := true, recurses := true, plainKeys := false, apart := false, narrowed := true }
def WorkWritesUptoSaid : Prop := workWritesUptoRow.holds Try.pinned (OpenSpec.upto workWritesSpec)

/-- 'croftlaw.WorkCommits', WHERE WHAT IT READS IS OF BULK AT MOST 1048576: true; the input reads as it did. -/
def workCommitsUptoRow : OpenClaim := { program := "ytgojonhjhdbpkaa", sum := "57b9c00f0207596392a6970b306662dc7b02dbbada2b510d25f518614b61b994", func := "croft/croftlaw.WorkCommits", spec := "workCommits", unfollowed := true, recurses := true, plainKeys := false, apart := false, narrowed := true }
def WorkCommitsUptoSaid : Prop := workCommitsUptoRow.holds Try.pinned (OpenSpec.upto workCommitsSpec)

/-- 'croftlaw.WorkTrue', WHERE WHAT IT READS IS OF BULK AT MOST 1048576: true; the input reads as it did. -/
def workTrueUptoRow : OpenClaim := { program := "ytgojonhjhdbpkaa", sum := "57b9c00f0207596392a6970b306662dc7b02dbbada2b510d25f518614b61b994", func := "croft/croftlaw.WorkTrue", spec := "workTrue", unfollowed := true, recurses := true, plainKeys := false, apart := false, narrowed := true }
def WorkTrueUptoSaid : Prop := workTrueUptoRow.holds Try.pinned (OpenSpec.upto workTrueSpec)

/-- 'croftlaw.WorkWins', WHERE WHAT IT READS IS OF BULK AT MOST 1048576: true; the input reads as it did. -/
def workWinsUptoRow : OpenClaim := { program := "ytgojonhjhdbpkaa", sum := "57b9c00f0207596392a6970b306662dc7b02dbbada2b510d25f518614b61b994", func := "croft/croftlaw.WorkWins", spec := "workWins", unfollowed := true, recurses := true, plainKeys := false, apart := false, narrowed := true }
def WorkWinsUptoSaid : Prop := workWinsUptoRow.holds Try.pinned (OpenSpec.upto workWinsSpec)

end Rows
end Go.Proofs.Ytgojonhjhdbpkaa
