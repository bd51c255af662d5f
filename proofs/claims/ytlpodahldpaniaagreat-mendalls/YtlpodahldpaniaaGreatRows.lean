/-
  No cell of these rows narrows 'for every input' (looked for: loops, veiled, ifaces, maps, wideKeys, modest, calm, conditions, laid).
  DERIVED. THE GIVEN ROWS OF THIS SEAT. 3 by the template 'for every input the law returns true; each argument reads behind the call as it read before'; 0 by the template 'total and deterministic' (their statements: YtlpodahldpaniaaGreatTotals.lean).
  GIVEN WITH THE SEED: the statements are not yours to turn. If you find one false, say at which input.
  Laid BY PROGRAM, IN A SANDBOX (cutbox-rows.mjs): the forced cells as the released guide's own fill.sh prints them over the translation 39a96e45f14ca1b7… (all of the seat's roots in one cut). By AI agents, Wed Nov 11 2026. No macro, syntax, notation, axiom, sorry.
-/
import Derived.Test.YtlpodahldpaniaaGreatChecked
import GoSem.Claim
import GoSem.ClaimJoined
import GoSem.ClaimMapViews
import Derived.JoinedTies
import Derived.KernelRfl
namespace Go.Proofs.YtlpodahldpaniaaGreat
/- THE CELL 'sum', in the pinned program and in every row, IS THE sha256 OF THE DUMP (.gsa) THAT YtlpodahldpaniaaGreatProg.lean LOADS. Nothing in Lean hashes anything: it is a label: what it is worth is what the hold of that sum in a sandbox is worth. -/
noncomputable def Tryz.pinned : Pinned := { name := "ytlpodahldpaniaagreat", sum := "39a96e45f14ca1b784a18bac55558afb2ff04ed55d2000805fcf0e2aa6a86a09", checked := Tryz.checked }
namespace Rows
def none {H : Type} : Left H := { results := [], args := [] }

/-- 'croftlaw.MendAlls': WHATEVER THE INPUT: true; the input reads as it did. -/
def mendAllsSpec : ChangeSpec := { name := "mendAlls", fn := fun _ => fun
  | [d] => { results := [.lit (.bool true)], args := [d] }
  | _ => none }
def mendAllsRow : OpenClaim := { program := "ytlpodahldpaniaagreat", sum := "39a96e45f14ca1b784a18bac55558afb2ff04ed55d2000805fcf0e2aa6a86a09", func := "croft/croftlaw.MendAlls", spec := "mendAlls", unfollowed := true, recurses := true, plainKeys := false, apart := false }
def MendAllsSaid : Prop := mendAllsRow.holds Tryz.pinned (OpenSpec.ofChange mendAllsSpec)

/-- ITS FALSE NEIGHBOUR: 'it returns false'. Refute it at one input. -/
def mendAllsWrong : ChangeSpec := { name := "mendAlls", fn := fun _ => fun
  | [d] => { results := [.lit (.bool false)], args := [d] }
  | _ => none }
def MendAllsWrongFalsely : Prop := mendAllsRow.holds Tryz.pinned (OpenSpec.ofChange mendAllsWrong)

/-- 'croftlaw.MendHalves': WHATEVER THE INPUT: true; the input reads as it did. -/
def mendHalvesSpec : ChangeSpec := { name := "mendHalves", fn := fun _ => fun
  | [d1, d2, d3] => { results := [.lit (.bool true)], args := [d1, d2, d3] }
  | _ => none }
def mendHalvesRow : OpenClaim := { program := "ytlpodahldpaniaagreat", sum := "39a96e45f14ca1b784a18bac55558afb2ff04ed55d2000805fcf0e2aa6a86a09", func := "croft/croftlaw.MendHalves", spec := "mendHalves", unfollowed := true, recurses := true, plainKeys := false, apart := false }
def MendHalvesSaid : Prop := mendHalvesRow.holds Tryz.pinned (OpenSpec.ofChange mendHalvesSpec)

/-- ITS FALSE NEIGHBOUR: 'it returns false'. Refute it at one input. -/
def mendHalvesWrong : ChangeSpec := { name := "mendHalves", fn := fun _ => fun
  | [d1, d2, d3] => { results := [.lit (.bool false)], args := [d1, d2, d3] }
  | _ => none }
def MendHalvesWrongFalsely : Prop := mendHalvesRow.holds Tryz.pinned (OpenSpec.ofChange mendHalvesWrong)

/-- 'croftlaw.MendTrue': WHATEVER THE INPUT: true; the input reads as it did. -/
def mendTrueSpec : ChangeSpec := { name := "mendTrue", fn := fun _ => fun
  | [d] => { results := [.lit (.bool true)], args := [d] }
  | _ => none }
def mendTrueRow : OpenClaim := { program := "ytlpodahldpaniaagreat", sum := "39a96e45f14ca1b784a18bac55558afb2ff04ed55d2000805fcf0e2aa6a86a09", func := "croft/croftlaw.MendTrue", spec := "mendTrue", unfollowed := true, recurses := true, plainKeys := false, apart := false }
def MendTrueSaid : Prop := mendTrueRow.holds Tryz.pinned (OpenSpec.ofChange mendTrueSpec)

/-- ITS FALSE NEIGHBOUR: 'it returns false'. Refute it at one input. -/
def mendTrueWrong : ChangeSpec := { name := "mendTrue", fn := fun _ => fun
  | [d] => { results := [.lit (.bool false)], args := [d] }
  | _ => none }
def MendTrueWrongFalsely : Prop := mendTrueRow.holds Tryz.pinned (OpenSpec.ofChange mendTrueWrong)

/- THE SECOND FORM. 'bulk': how many values and letters a reading holds, each counted each time it is reached (what is shared counts as often as it is met; a slice's spare places count too). A statement '..UptoSaid' is the law's where the arguments, and the package variables that the reading takes, are together of bulk at most 1048576: NARROWER than '..Said'. Prove '..Said' where nothing that the law and all that it calls make is longer than what came in: it says more and counts as full. Else prove '..UptoSaid'. A law counts once. -/
mutual
def uptoBulk {H : Type} : DataW H → Nat
  | .lit (.string bytes) => bytes.length + 1
  | .lit _ => 1
  | .nil => 1
  | .ptr d => uptoBulk d + 1
  | .slice elems spare => uptoBulkAll elems + uptoBulkAll spare + 1
  | .agg parts => uptoBulkAll parts + 1
  | .iface _ d => uptoBulk d + 1
  | .map entries => uptoBulkEntries entries + 1
  | .held _ => 1
def uptoBulkAll {H : Type} : List (DataW H) → Nat
  | [] => 0
  | d :: r => uptoBulk d + uptoBulkAll r
def uptoBulkEntries {H : Type} : List (Lit × DataW H) → Nat
  | [] => 0
  | x :: r => uptoBulkEntry x + uptoBulkEntries r
def uptoBulkEntry {H : Type} : Lit × DataW H → Nat
  | (.string bytes, d) => bytes.length + uptoBulk d + 1
  | (_, d) => uptoBulk d + 1
 end
def uptoSmall : (H : Type) → List (DataW H) → Bool := fun _ ds => decide (uptoBulkAll ds ≤ 1048576)
def OpenSpec.upto (s : _root_.Go.ChangeSpec) : _root_.Go.OpenSpec := { _root_.Go.OpenSpec.ofChange s with cond := some uptoSmall }

/-- 'croftlaw.MendAlls', WHERE WHAT IT READS IS OF BULK AT MOST 1048576: true; the input reads as it did. -/
def mendAllsUptoRow : OpenClaim := { program := "ytlpodahldpaniaagreat", sum := "39a96e45f14ca1b784a18bac55558afb2ff04ed55d2000805fcf0e2aa6a86a09", func := "croft/croftlaw.MendAlls", spec := "mendAlls", unfollowed := true, recurses := true, plainKeys := false, apart := false, narrowed := true }
def MendAllsUptoSaid : Prop := mendAllsUptoRow.holds Tryz.pinned (OpenSpec.upto mendAllsSpec)

/-- 'croftlaw.MendHalves', WHERE WHAT IT READS IS OF BULK AT MOST 1048576: true; the input reads as it did. -/
def mendHalvesUptoRow : OpenClaim := { program := "ytlpodahldpaniaagreat", sum := "39a96e45f14ca1b784a18bac55558afb2ff04ed55d2000805fcf0e2aa6a86a09", func := "croft/croftlaw.MendHalves", spec := "mendHalves", unfollowed := true, recurses := true, plainKeys := false, apart := false, narrowed := true }
def MendHalvesUptoSaid : Prop := mendHalvesUptoRow.holds Tryz.pinned (OpenSpec.upto mendHalvesSpec)

/-- 'croftlaw.MendTrue', WHERE WHAT IT READS IS OF BULK AT MOST 1048576: true; the input reads as it did. -/
def mendTrueUptoRow : OpenClaim := { program := "ytlpodahldpaniaagreat", sum := "39a96e45f14ca1b784a18bac55558afb2ff04ed55d2000805fcf0e2aa6a86a09", func := "croft/croftlaw.MendTrue", spec := "mendTrue", unfollowed := true, recurses := true, plainKeys := false, apart := false, narrowed := true }
def MendTrueUptoSaid : Prop := mendTrueUptoRow.holds Tryz.pinned (OpenSpec.upto mendTrueSpec)

end Rows
end Go.Proofs.YtlpodahldpaniaaGreat
