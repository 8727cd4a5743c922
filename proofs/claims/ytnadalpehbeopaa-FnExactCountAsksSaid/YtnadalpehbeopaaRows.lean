/-
  No cell of these rows narrows 'for every input' (looked for: loops, veiled, ifaces, maps, wideKeys, modest, calm, conditions, laid).
  DERIVED. THE GIVEN ROWS OF THIS SEAT. 6 by the template 'for every input the law returns true; each argument reads behind the call as it read before'; 0 by the template 'total and deterministic' (their statements: YtnadalpehbeopaaTotals.lean).
  GIVEN WITH THE SEED: the statements are not yours to turn. If you find one false, say at which input.
  Laid BY PROGRAM, IN A SANDBOX (cutbox-rows.mjs): the forced cells as the released guide's own fill.sh prints them over the translation ca25fbe34c021460… (all of the seat's roots in one cut). By AI agents, Wed Nov 11 2026. No macro, syntax, notation, axiom, sorry.
-/
import Derived.Test.YtnadalpehbeopaaChecked
import GoSem.Claim
import GoSem.ClaimJoined
import GoSem.ClaimMapViews
import Derived.JoinedTies
import Derived.KernelRfl
namespace Go.Proofs.Ytnadalpehbeopaa
/- THE CELL 'sum', in the pinned program and in every row, IS THE sha256 OF THE DUMP (.gsa) THAT YtnadalpehbeopaaProg.lean LOADS. Nothing in Lean hashes anything: it is a label: what it is worth is what the hold of that sum in a sandbox is worth. -/
noncomputable def Try.pinned : Pinned := { name := "ytnadalpehbeopaa", sum := "ca25fbe34c0214600a796d38fb5a4a39cf0d4fe502c51d76bbfee28de05fe84e", checked := Try.checked }
namespace Rows
def none {H : Type} : Left H := { results := [], args := [] }

/-- 'laws.FnScripts': WHATEVER THE INPUT: true; the input reads as it did. -/
def fnScriptsSpec : ChangeSpec := { name := "fnScripts", fn := fun _ => fun
  | [d] => { results := [.lit (.bool true)], args := [d] }
  | _ => none }
def fnScriptsRow : OpenClaim := { program := "ytnadalpehbeopaa", sum := "ca25fbe34c0214600a796d38fb5a4a39cf0d4fe502c51d76bbfee28de05fe84e", func := "loop.example/g03002/laws.FnScripts", spec := "fnScripts", unfollowed := true, recurses := true, apart := false }
def FnScriptsSaid : Prop := fnScriptsRow.holds Try.pinned (OpenSpec.ofChange fnScriptsSpec)

/-- ITS FALSE NEIGHBOUR: 'it returns false'. Refute it at one input. -/
def fnScriptsWrong : ChangeSpec := { name := "fnScripts", fn := fun _ => fun
  | [d] => { results := [.lit (.bool false)], args := [d] }
  | _ => none }
def FnScriptsWrongFalsely : Prop := fnScriptsRow.holds Try.pinned (OpenSpec.ofChange fnScriptsWrong)

/-- 'laws.FnExactIsScript': WHATEVER THE INPUT: true; the input reads as it did. -/
def fnExactIsScriptSpec : ChangeSpec := { name := "fnExactIsScript", fn := fun _ => fun
  | [d] => { results := [.lit (.bool true)], args := [d] }
  | _ => none }
def fnExactIsScriptRow : OpenClaim := { program := "ytnadalpehbeopaa", sum := "ca25fbe34c0214600a796d38fb5a4a39cf0d4fe502c51d76bbfee28de05fe84e", func := "loop.example/g03002/laws.FnExactIsScript", spec := "fnExactIsScript", unfollowed := true, recurses := true, apart := false }
def FnExactIsScriptSaid : Prop := fnExactIsScriptRow.holds Try.pinned (OpenSpec.ofChange fnExactIsScriptSpec)

/-- ITS FALSE NEIGHBOUR: 'it returns false'. Refute it at one input. -/
def fnExactIsScriptWrong : ChangeSpec := { name := "fnExactIsScript", fn := fun _ => fun
  | [d] => { results := [.lit (.bool false)], args := [d] }
  | _ => none }
def FnExactIsScriptWrongFalsely : Prop := fnExactIsScriptRow.holds Try.pinned (OpenSpec.ofChange fnExactIsScriptWrong)

/-- 'laws.FnExactOpName': WHATEVER THE INPUT: true; the input reads as it did. -/
def fnExactOpNameSpec : ChangeSpec := { name := "fnExactOpName", fn := fun _ => fun
  | [d] => { results := [.lit (.bool true)], args := [d] }
  | _ => none }
def fnExactOpNameRow : OpenClaim := { program := "ytnadalpehbeopaa", sum := "ca25fbe34c0214600a796d38fb5a4a39cf0d4fe502c51d76bbfee28de05fe84e", func := "loop.example/g03002/laws.FnExactOpName", spec := "fnExactOpName", unfollowed := true, recurses := true, apart := false }
def FnExactOpNameSaid : Prop := fnExactOpNameRow.holds Try.pinned (OpenSpec.ofChange fnExactOpNameSpec)

/-- ITS FALSE NEIGHBOUR: 'it returns false'. Refute it at one input. -/
def fnExactOpNameWrong : ChangeSpec := { name := "fnExactOpName", fn := fun _ => fun
  | [d] => { results := [.lit (.bool false)], args := [d] }
  | _ => none }
def FnExactOpNameWrongFalsely : Prop := fnExactOpNameRow.holds Try.pinned (OpenSpec.ofChange fnExactOpNameWrong)

/-- 'laws.FnExactAsks': WHATEVER THE INPUT: true; the input reads as it did. -/
def fnExactAsksSpec : ChangeSpec := { name := "fnExactAsks", fn := fun _ => fun
  | [d] => { results := [.lit (.bool true)], args := [d] }
  | _ => none }
def fnExactAsksRow : OpenClaim := { program := "ytnadalpehbeopaa", sum := "ca25fbe34c0214600a796d38fb5a4a39cf0d4fe502c51d76bbfee28de05fe84e", func := "loop.example/g03002/laws.FnExactAsks", spec := "fnExactAsks", apart := false }
def FnExactAsksSaid : Prop := fnExactAsksRow.holds Try.pinned (OpenSpec.ofChange fnExactAsksSpec)

/-- ITS FALSE NEIGHBOUR: 'it returns false'. Refute it at one input. -/
def fnExactAsksWrong : ChangeSpec := { name := "fnExactAsks", fn := fun _ => fun
  | [d] => { results := [.lit (.bool false)], args := [d] }
  | _ => none }
def FnExactAsksWrongFalsely : Prop := fnExactAsksRow.holds Try.pinned (OpenSpec.ofChange fnExactAsksWrong)

/-- 'laws.FnExactScriptInts': WHATEVER THE INPUT: true; the input reads as it did. -/
def fnExactScriptIntsSpec : ChangeSpec := { name := "fnExactScriptInts", fn := fun _ => fun
  | [d] => { results := [.lit (.bool true)], args := [d] }
  | _ => none }
def fnExactScriptIntsRow : OpenClaim := { program := "ytnadalpehbeopaa", sum := "ca25fbe34c0214600a796d38fb5a4a39cf0d4fe502c51d76bbfee28de05fe84e", func := "loop.example/g03002/laws.FnExactScriptInts", spec := "fnExactScriptInts", apart := false }
def FnExactScriptIntsSaid : Prop := fnExactScriptIntsRow.holds Try.pinned (OpenSpec.ofChange fnExactScriptIntsSpec)

/-- ITS FALSE NEIGHBOUR: 'it returns false'. Refute it at one input. -/
def fnExactScriptIntsWrong : ChangeSpec := { name := "fnExactScriptInts", fn := fun _ => fun
  | [d] => { results := [.lit (.bool false)], args := [d] }
  | _ => none }
def FnExactScriptIntsWrongFalsely : Prop := fnExactScriptIntsRow.holds Try.pinned (OpenSpec.ofChange fnExactScriptIntsWrong)

/-- 'laws.FnExactCountAsks': WHATEVER THE INPUT: true; the input reads as it did. -/
def fnExactCountAsksSpec : ChangeSpec := { name := "fnExactCountAsks", fn := fun _ => fun
  | [d] => { results := [.lit (.bool true)], args := [d] }
  | _ => none }
def fnExactCountAsksRow : OpenClaim := { program := "ytnadalpehbeopaa", sum := "ca25fbe34c0214600a796d38fb5a4a39cf0d4fe502c51d76bbfee28de05fe84e", func := "loop.example/g03002/laws.FnExactCountAsks", spec := "fnExactCountAsks", apart := false }
def FnExactCountAsksSaid : Prop := fnExactCountAsksRow.holds Try.pinned (OpenSpec.ofChange fnExactCountAsksSpec)

/-- ITS FALSE NEIGHBOUR: 'it returns false'. Refute it at one input. -/
def fnExactCountAsksWrong : ChangeSpec := { name := "fnExactCountAsks", fn := fun _ => fun
  | [d] => { results := [.lit (.bool false)], args := [d] }
  | _ => none }
def FnExactCountAsksWrongFalsely : Prop := fnExactCountAsksRow.holds Try.pinned (OpenSpec.ofChange fnExactCountAsksWrong)

/- THE SECOND FORM. 'bulk': how many values and letters a reading holds, each counted each time it is reached (what is shared counts as often as it is met; a slice's spare places count too). A statement '..UptoSaid' is the law's where the arguments, and the package variables that the reading takes, are together of bulk at most 1048576: NARROWER than '..Said'. Prove '..Said' where nothing that the law and all that it calls make is longer than what came in: it says more and counts as full. Else prove '..UptoSaid'. A law counts once. -/
mutual
def uptoBulk {H : Type} : DataW H → Nat
  | .lit (.string bytes) => bytes.length + 1
  | .lit _ => 1
  | .nil => 1
  | .ptr d => uptoBulk d + 1
  | .slice elems spare => uptoBulkAll elems + uptoBulkAll spare + 1
  | .agg parts => uptoBulkAll parts + 1
  | .iface _ d => uptoBulk d + 1
  | .map entries => uptoBulkEntries entries + 1
  | .held _ => 1
def uptoBulkAll {H : Type} : List (DataW H) → Nat
  | [] => 0
  | d :: r => uptoBulk d + uptoBulkAll r
def uptoBulkEntries {H : Type} : List (Lit × DataW H) → Nat
  | [] => 0
  | x :: r => uptoBulkEntry x + uptoBulkEntries r
def uptoBulkEntry {H : Type} : Lit × DataW H → Nat
  | (.string bytes, d) => bytes.length + uptoBulk d + 1
  | (_, d) => uptoBulk d + 1
 end
def uptoSmall : (H : Type) → List (DataW H) → Bool := fun _ ds => decide (uptoBulkAll ds ≤ 1048576)
def OpenSpec.upto (s : _root_.Go.ChangeSpec) : _root_.Go.OpenSpec := { _root_.Go.OpenSpec.ofChange s with cond := some uptoSmall }

/-- 'laws.FnScripts', WHERE WHAT IT READS IS OF BULK AT MOST 1048576: true; the input reads as it did. -/
def fnScriptsUptoRow : OpenClaim := { program := "ytnadalpehbeopaa", sum := "ca25fbe34c0214600a796d38fb5a4a39cf0d4fe502c51d76bbfee28de05fe84e", func := "loop.example/g03002/laws.FnScripts", spec := "fnScripts", unfollowed := true, recurses := true, apart := false, narrowed := true }
def FnScriptsUptoSaid : Prop := fnScriptsUptoRow.holds Try.pinned (OpenSpec.upto fnScriptsSpec)

/-- 'laws.FnExactIsScript', WHERE WHAT IT READS IS OF BULK AT MOST 1048576: true; the input reads as it did. -/
def fnExactIsScriptUptoRow : OpenClaim := { program := "ytnadalpehbeopaa", sum := "ca25fbe34c0214600a796d38fb5a4a39cf0d4fe502c51d76bbfee28de05fe84e", func := "loop.example/g03002/laws.FnExactIsScript", spec := "fnExactIsScript", unfollowed := true, recurses := true, apart := false, narrowed := true }
def FnExactIsScriptUptoSaid : Prop := fnExactIsScriptUptoRow.holds Try.pinned (OpenSpec.upto fnExactIsScriptSpec)

/-- 'laws.FnExactOpName', WHERE WHAT IT READS IS OF BULK AT MOST 1048576: true; the input reads as it did. -/
def fnExactOpNameUptoRow : OpenClaim := { program := "ytnadalpehbeopaa", sum := "ca25fbe34c0214600a796d38fb5a4a39cf0d4fe502c51d76bbfee28de05fe84e", func := "loop.example/g03002/laws.FnExactOpName", spec := "fnExactOpName", unfollowed := true, recurses := true, apart := false, narrowed := true }
def FnExactOpNameUptoSaid : Prop := fnExactOpNameUptoRow.holds Try.pinned (OpenSpec.upto fnExactOpNameSpec)

/-- 'laws.FnExactAsks', WHERE WHAT IT READS IS OF BULK AT MOST 1048576: true; the input reads as it did. -/
def fnExactAsksUptoRow : OpenClaim := { program := "ytnadalpehbeopaa", sum := "ca25fbe34c0214600a796d38fb5a4a39cf0d4fe502c51d76bbfee28de05fe84e", func := "loop.example/g03002/laws.FnExactAsks", spec := "fnExactAsks", apart := false, narrowed := true }
def FnExactAsksUptoSaid : Prop := fnExactAsksUptoRow.holds Try.pinned (OpenSpec.upto fnExactAsksSpec)

/-- 'laws.FnExactScriptInts', WHERE WHAT IT READS IS OF BULK AT MOST 1048576: true; the input reads as it did. -/
def fnExactScriptIntsUptoRow : OpenClaim := { program := "ytnadalpehbeopaa", sum := "ca25fbe34c0214600a796d38fb5a4a39cf0d4fe502c51d76bbfee28de05fe84e", func := "loop.example/g03002/laws.FnExactScriptInts", spec := "fnExactScriptInts", apart := false, narrowed := true }
def FnExactScriptIntsUptoSaid : Prop := fnExactScriptIntsUptoRow.holds Try.pinned (OpenSpec.upto fnExactScriptIntsSpec)

/-- 'laws.FnExactCountAsks', WHERE WHAT IT READS IS OF BULK AT MOST 1048576: true; the input reads as it did. -/
def fnExactCountAsksUptoRow : OpenClaim := { program := "ytnadalpehbeopaa", sum := "ca25fbe34c0214600a796d38fb5a4a39cf0d4fe502c51d76bbfee28de05fe84e", func := "loop.example/g03002/laws.FnExactCountAsks", spec := "fnExactCountAsks", apart := false, narrowed := true }
def FnExactCountAsksUptoSaid : Prop := fnExactCountAsksUptoRow.holds Try.pinned (OpenSpec.upto fnExactCountAsksSpec)

end Rows
end Go.Proofs.Ytnadalpehbeopaa
