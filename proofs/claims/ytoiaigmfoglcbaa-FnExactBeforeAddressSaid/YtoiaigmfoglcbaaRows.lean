/-
  No cell of these rows narrows 'for every input' (looked for: loops, veiled, ifaces, maps, wideKeys, modest, calm, conditions, laid).
  DERIVED. THE GIVEN ROWS OF THIS SEAT. 4 by the template 'for every input the law returns true; each argument reads behind the call as it read before'; 0 by the template 'total and deterministic' (their statements: YtoiaigmfoglcbaaTotals.lean).
  GIVEN WITH THE SEED: the statements are not yours to turn. If you find one false, say at which input.
  Laid BY PROGRAM, IN A SANDBOX (cutbox-rows.mjs): the forced cells as the released guide's own fill.sh prints them over the translation 786ea0f1f5b5f575… (all of the seat's roots in one cut). By AI agents, Wed Nov 11 2026. No macro, syntax, notation, axiom, sorry.
-/
import Derived.Test.YtoiaigmfoglcbaaChecked
import GoSem.Claim
import GoSem.ClaimJoined
import GoSem.ClaimMapViews
import Derived.JoinedTies
import Derived.KernelRfl
namespace Go.Proofs.Ytoiaigmfoglcbaa
/- THE CELL 'sum', in the pinned program and in every row, IS THE sha256 OF THE DUMP (.gsa) THAT YtoiaigmfoglcbaaProg.lean LOADS. Nothing in Lean hashes anything: it is a label: what it is worth is what the hold of that sum in a sandbox is worth. -/
noncomputable def Try.pinned : Pinned := { name := "ytoiaigmfoglcbaa", sum := "786ea0f1f5b5f5756f8d0aedbcda58f52b956621a983c7ba5bb5d6bc03de9c2f", checked := Try.checked }
namespace Rows
def none {H : Type} : Left H := { results := [], args := [] }

/-- 'laws.FnExactIsAddress': WHATEVER THE INPUT: true; the input reads as it did. -/
def fnExactIsAddressSpec : ChangeSpec := { name := "fnExactIsAddress", fn := fun _ => fun
  | [d] => { results := [.lit (.bool true)], args := [d] }
  | _ => none }
def fnExactIsAddressRow : OpenClaim := { program := "ytoiaigmfoglcbaa", sum := "786ea0f1f5b5f5756f8d0aedbcda58f52b956621a983c7ba5bb5d6bc03de9c2f", func := "loop.example/g03002/laws.FnExactIsAddress", spec := "fnExactIsAddress", apart := false }
def FnExactIsAddressSaid : Prop := fnExactIsAddressRow.holds Try.pinned (OpenSpec.ofChange fnExactIsAddressSpec)

/-- ITS FALSE NEIGHBOUR: 'it returns false'. Refute it at one input. -/
def fnExactIsAddressWrong : ChangeSpec := { name := "fnExactIsAddress", fn := fun _ => fun
  | [d] => { results := [.lit (.bool false)], args := [d] }
  | _ => none }
def FnExactIsAddressWrongFalsely : Prop := fnExactIsAddressRow.holds Try.pinned (OpenSpec.ofChange fnExactIsAddressWrong)

/-- 'laws.FnExactWithoutQuery': WHATEVER THE INPUT: true; the input reads as it did. -/
def fnExactWithoutQuerySpec : ChangeSpec := { name := "fnExactWithoutQuery", fn := fun _ => fun
  | [d] => { results := [.lit (.bool true)], args := [d] }
  | _ => none }
def fnExactWithoutQueryRow : OpenClaim := { program := "ytoiaigmfoglcbaa", sum := "786ea0f1f5b5f5756f8d0aedbcda58f52b956621a983c7ba5bb5d6bc03de9c2f", func := "loop.example/g03002/laws.FnExactWithoutQuery", spec := "fnExactWithoutQuery", apart := false }
def FnExactWithoutQuerySaid : Prop := fnExactWithoutQueryRow.holds Try.pinned (OpenSpec.ofChange fnExactWithoutQuerySpec)

/-- ITS FALSE NEIGHBOUR: 'it returns false'. Refute it at one input. -/
def fnExactWithoutQueryWrong : ChangeSpec := { name := "fnExactWithoutQuery", fn := fun _ => fun
  | [d] => { results := [.lit (.bool false)], args := [d] }
  | _ => none }
def FnExactWithoutQueryWrongFalsely : Prop := fnExactWithoutQueryRow.holds Try.pinned (OpenSpec.ofChange fnExactWithoutQueryWrong)

/-- 'laws.FnExactDistanceOf': WHATEVER THE INPUT: true; the input reads as it did. -/
def fnExactDistanceOfSpec : ChangeSpec := { name := "fnExactDistanceOf", fn := fun _ => fun
  | [d1, d2] => { results := [.lit (.bool true)], args := [d1, d2] }
  | _ => none }
def fnExactDistanceOfRow : OpenClaim := { program := "ytoiaigmfoglcbaa", sum := "786ea0f1f5b5f5756f8d0aedbcda58f52b956621a983c7ba5bb5d6bc03de9c2f", func := "loop.example/g03002/laws.FnExactDistanceOf", spec := "fnExactDistanceOf", apart := false }
def FnExactDistanceOfSaid : Prop := fnExactDistanceOfRow.holds Try.pinned (OpenSpec.ofChange fnExactDistanceOfSpec)

/-- ITS FALSE NEIGHBOUR: 'it returns false'. Refute it at one input. -/
def fnExactDistanceOfWrong : ChangeSpec := { name := "fnExactDistanceOf", fn := fun _ => fun
  | [d1, d2] => { results := [.lit (.bool false)], args := [d1, d2] }
  | _ => none }
def FnExactDistanceOfWrongFalsely : Prop := fnExactDistanceOfRow.holds Try.pinned (OpenSpec.ofChange fnExactDistanceOfWrong)

/-- 'laws.FnExactBeforeAddress': WHATEVER THE INPUT: true; the input reads as it did. -/
def fnExactBeforeAddressSpec : ChangeSpec := { name := "fnExactBeforeAddress", fn := fun _ => fun
  | [d1, d2] => { results := [.lit (.bool true)], args := [d1, d2] }
  | _ => none }
def fnExactBeforeAddressRow : OpenClaim := { program := "ytoiaigmfoglcbaa", sum := "786ea0f1f5b5f5756f8d0aedbcda58f52b956621a983c7ba5bb5d6bc03de9c2f", func := "loop.example/g03002/laws.FnExactBeforeAddress", spec := "fnExactBeforeAddress", apart := false }
def FnExactBeforeAddressSaid : Prop := fnExactBeforeAddressRow.holds Try.pinned (OpenSpec.ofChange fnExactBeforeAddressSpec)

/-- ITS FALSE NEIGHBOUR: 'it returns false'. Refute it at one input. -/
def fnExactBeforeAddressWrong : ChangeSpec := { name := "fnExactBeforeAddress", fn := fun _ => fun
  | [d1, d2] => { results := [.lit (.bool false)], args := [d1, d2] }
  | _ => none }
def FnExactBeforeAddressWrongFalsely : Prop := fnExactBeforeAddressRow.holds Try.pinned (OpenSpec.ofChange fnExactBeforeAddressWrong)

/- THE SECOND FORM. 'bulk': how many values and letters a reading holds, each counted each time it is reached (what is shared counts as often as it is met; a slice's spare places count too). A statement '..UptoSaid' is the law's where the arguments, and the package variables that the reading takes, are together of bulk at most 1048576: NARROWER than '..Said'. Prove '..Said' where nothing that the law and all that it calls make is longer than what came in: it says more and counts as full. Else prove '..UptoSaid'. A law counts once. -/
mutual
def uptoBulk {H : Type} : DataW H → Nat
  | .lit (.string bytes) => bytes.length + 1
  | .lit _ => 1
  | .nil => 1
  | .ptr d => uptoBulk d + 1
  | .slice elems spare => uptoBulkAll elems + uptoBulkAll spare + 1
  | .agg parts => uptoBulkAll parts + 1
  | .iface _ d => uptoBulk d + 1
  | .map entries => uptoBulkEntries entries + 1
  | .held _ => 1
def uptoBulkAll {H : Type} : List (DataW H) → Nat
  | [] => 0
  | d :: r => uptoBulk d + uptoBulkAll r
def uptoBulkEntries {H : Type} : List (Lit × DataW H) → Nat
  | [] => 0
  | x :: r => uptoBulkEntry x + uptoBulkEntries r
def uptoBulkEntry {H : Type} : Lit × DataW H → Nat
  | (.string bytes, d) => bytes.length + uptoBulk d + 1
  | (_, d) => uptoBulk d + 1
 end
def uptoSmall : (H : Type) → List (DataW H) → Bool := fun _ ds => decide (uptoBulkAll ds ≤ 1048576)
def OpenSpec.upto (s : _root_.Go.ChangeSpec) : _root_.Go.OpenSpec := { _root_.Go.OpenSpec.ofChange s with cond := some uptoSmall }

/-- 'laws.FnExactIsAddress', WHERE WHAT IT READS IS OF BULK AT MOST 1048576: true; the input reads as it did. -/
def fnExactIsAddressUptoRow : OpenClaim := { program := "ytoiaigmfoglcbaa", sum := "786ea0f1f5b5f5756f8d0aedbcda58f52b956621a983c7ba5bb5d6bc03de9c2f", func := "loop.example/g03002/laws.FnExactIsAddress", spec := "fnExactIsAddress", apart := false, narrowed := true }
def FnExactIsAddressUptoSaid : Prop := fnExactIsAddressUptoRow.holds Try.pinned (OpenSpec.upto fnExactIsAddressSpec)

/-- 'laws.FnExactWithoutQuery', WHERE WHAT IT READS IS OF BULK AT MOST 1048576: true; the input reads as it did. -/
def fnExactWithoutQueryUptoRow : OpenClaim := { program := "ytoiaigmfoglcbaa", sum := "786ea0f1f5b5f5756f8d0aedbcda58f52b956621a983c7ba5bb5d6bc03de9c2f", func := "loop.example/g03002/laws.FnExactWithoutQuery", spec := "fnExactWithoutQuery", apart := false, narrowed := true }
def FnExactWithoutQueryUptoSaid : Prop := fnExactWithoutQueryUptoRow.holds Try.pinned (OpenSpec.upto fnExactWithoutQuerySpec)

/-- 'laws.FnExactDistanceOf', WHERE WHAT IT READS IS OF BULK AT MOST 1048576: true; the input reads as it did. -/
def fnExactDistanceOfUptoRow : OpenClaim := { program := "ytoiaigmfoglcbaa", sum := "786ea0f1f5b5f5756f8d0aedbcda58f52b956621a983c7ba5bb5d6bc03de9c2f", func := "loop.example/g03002/laws.FnExactDistanceOf", spec := "fnExactDistanceOf", apart := false, narrowed := true }
def FnExactDistanceOfUptoSaid : Prop := fnExactDistanceOfUptoRow.holds Try.pinned (OpenSpec.upto fnExactDistanceOfSpec)

/-- 'laws.FnExactBeforeAddress', WHERE WHAT IT READS IS OF BULK AT MOST 1048576: true; the input reads as it did. -/
def fnExactBeforeAddressUptoRow : OpenClaim := { program := "ytoiaigmfoglcbaa", sum := "786ea0f1f5b5f5756f8d0aedbcda58f52b956621a983c7ba5bb5d6bc03de9c2f", func := "loop.example/g03002/laws.FnExactBeforeAddress", spec := "fnExactBeforeAddress", apart := false, narrowed := true }
def FnExactBeforeAddressUptoSaid : Prop := fnExactBeforeAddressUptoRow.holds Try.pinned (OpenSpec.upto fnExactBeforeAddressSpec)

end Rows
end Go.Proofs.Ytoiaigmfoglcbaa
