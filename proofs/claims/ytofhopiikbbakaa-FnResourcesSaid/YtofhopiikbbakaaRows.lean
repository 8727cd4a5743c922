/-
  No cell of these rows narrows 'for every input' (looked for: loops, veiled, ifaces, maps, wideKeys, modest, calm, conditions, laid).
  DERIVED. THE GIVEN ROWS OF THIS SEAT. 6 by the template 'for every input the law returns true; each argument reads behind the call as it read before'; 0 by the template 'total and deterministic' (their statements: YtofhopiikbbakaaTotals.lean).
  GIVEN WITH THE SEED: the statements are not yours to turn. If you find one false, say at which input.
  Laid BY PROGRAM, IN A SANDBOX (cutbox-rows.mjs): the forced cells as the released guide's own fill.sh prints them over the translation e2283eae8dc5aa6e… (all of the seat's roots in one cut). By AI agents, Wed Nov 11 2026. No macro, syntax, notation, axiom, sorry.
-/
import Derived.Test.YtofhopiikbbakaaChecked
import GoSem.Claim
import GoSem.ClaimJoined
import GoSem.ClaimMapViews
import Derived.JoinedTies
import Derived.KernelRfl
namespace Go.Proofs.Ytofhopiikbbakaa
/- THE CELL 'sum', in the pinned program and in every row, IS THE sha256 OF THE DUMP (.gsa) THAT YtofhopiikbbakaaProg.lean LOADS. Nothing in Lean hashes anything: it is a label: what it is worth is what the hold of that sum in a sandbox is worth. -/
noncomputable def Try.pinned : Pinned := { name := "ytofhopiikbbakaa", sum := "e2283eae8dc5aa6ec73987f0ba965a69c921cb769fb48f39a8eaafd91443e4d0", checked := Try.checked }
namespace Rows
def none {H : Type} : Left H := { results := [], args := [] }

/-- 'laws.FnResources': WHATEVER THE INPUT: true; the input reads as it did. -/
def fnResourcesSpec : ChangeSpec := { name := "fnResources", fn := fun _ => fun
  | [d] => { results := [.lit (.bool true)], args := [d] }
  | _ => none }
def fnResourcesRow : OpenClaim := { program := "ytofhopiikbbakaa", sum := "e2283eae8dc5aa6ec73987f0ba965a69c921cb769fb48f39a8eaafd91443e4d0", func := "loop.example/g03002/laws.FnResources", spec := "fnResources", inPlace := ["internal/abi.NoEscape", "internal/bytealg.MakeNoZero"], unfollowed := true, recurses := true, apart := false }
def FnResourcesSaid : Prop := fnResourcesRow.holds Try.pinned (OpenSpec.ofChange fnResourcesSpec)

/-- ITS FALSE NEIGHBOUR: 'it returns false'. Refute it at one input. -/
def fnResourcesWrong : ChangeSpec := { name := "fnResources", fn := fun _ => fun
  | [d] => { results := [.lit (.bool false)], args := [d] }
  | _ => none }
def FnResourcesWrongFalsely : Prop := fnResourcesRow.holds Try.pinned (OpenSpec.ofChange fnResourcesWrong)

/-- 'laws.FnExactIsResource': WHATEVER THE INPUT: true; the input reads as it did. -/
def fnExactIsResourceSpec : ChangeSpec := { name := "fnExactIsResource", fn := fun _ => fun
  | [d] => { results := [.lit (.bool true)], args := [d] }
  | _ => none }
def fnExactIsResourceRow : OpenClaim := { program := "ytofhopiikbbakaa", sum := "e2283eae8dc5aa6ec73987f0ba965a69c921cb769fb48f39a8eaafd91443e4d0", func := "loop.example/g03002/laws.FnExactIsResource", spec := "fnExactIsResource", unfollowed := true, recurses := true, apart := false }
def FnExactIsResourceSaid : Prop := fnExactIsResourceRow.holds Try.pinned (OpenSpec.ofChange fnExactIsResourceSpec)

/-- ITS FALSE NEIGHBOUR: 'it returns false'. Refute it at one input. -/
def fnExactIsResourceWrong : ChangeSpec := { name := "fnExactIsResource", fn := fun _ => fun
  | [d] => { results := [.lit (.bool false)], args := [d] }
  | _ => none }
def FnExactIsResourceWrongFalsely : Prop := fnExactIsResourceRow.holds Try.pinned (OpenSpec.ofChange fnExactIsResourceWrong)

/-- 'laws.FnExactResourceInts': WHATEVER THE INPUT: true; the input reads as it did. -/
def fnExactResourceIntsSpec : ChangeSpec := { name := "fnExactResourceInts", fn := fun _ => fun
  | [d] => { results := [.lit (.bool true)], args := [d] }
  | _ => none }
def fnExactResourceIntsRow : OpenClaim := { program := "ytofhopiikbbakaa", sum := "e2283eae8dc5aa6ec73987f0ba965a69c921cb769fb48f39a8eaafd91443e4d0", func := "loop.example/g03002/laws.FnExactResourceInts", spec := "fnExactResourceInts", apart := false }
def FnExactResourceIntsSaid : Prop := fnExactResourceIntsRow.holds Try.pinned (OpenSpec.ofChange fnExactResourceIntsSpec)

/-- ITS FALSE NEIGHBOUR: 'it returns false'. Refute it at one input. -/
def fnExactResourceIntsWrong : ChangeSpec := { name := "fnExactResourceInts", fn := fun _ => fun
  | [d] => { results := [.lit (.bool false)], args := [d] }
  | _ => none }
def FnExactResourceIntsWrongFalsely : Prop := fnExactResourceIntsRow.holds Try.pinned (OpenSpec.ofChange fnExactResourceIntsWrong)

/-- 'laws.FnExactEqualResources': WHATEVER THE INPUT: true; the input reads as it did. -/
def fnExactEqualResourcesSpec : ChangeSpec := { name := "fnExactEqualResources", fn := fun _ => fun
  | [d1, d2] => { results := [.lit (.bool true)], args := [d1, d2] }
  | _ => none }
def fnExactEqualResourcesRow : OpenClaim := { program := "ytofhopiikbbakaa", sum := "e2283eae8dc5aa6ec73987f0ba965a69c921cb769fb48f39a8eaafd91443e4d0", func := "loop.example/g03002/laws.FnExactEqualResources", spec := "fnExactEqualResources", apart := false }
def FnExactEqualResourcesSaid : Prop := fnExactEqualResourcesRow.holds Try.pinned (OpenSpec.ofChange fnExactEqualResourcesSpec)

/-- ITS FALSE NEIGHBOUR: 'it returns false'. Refute it at one input. -/
def fnExactEqualResourcesWrong : ChangeSpec := { name := "fnExactEqualResources", fn := fun _ => fun
  | [d1, d2] => { results := [.lit (.bool false)], args := [d1, d2] }
  | _ => none }
def FnExactEqualResourcesWrongFalsely : Prop := fnExactEqualResourcesRow.holds Try.pinned (OpenSpec.ofChange fnExactEqualResourcesWrong)

/-- 'laws.FnExactResourceText': WHATEVER THE INPUT: true; the input reads as it did. -/
def fnExactResourceTextSpec : ChangeSpec := { name := "fnExactResourceText", fn := fun _ => fun
  | [d] => { results := [.lit (.bool true)], args := [d] }
  | _ => none }
def fnExactResourceTextRow : OpenClaim := { program := "ytofhopiikbbakaa", sum := "e2283eae8dc5aa6ec73987f0ba965a69c921cb769fb48f39a8eaafd91443e4d0", func := "loop.example/g03002/laws.FnExactResourceText", spec := "fnExactResourceText", inPlace := ["internal/abi.NoEscape", "internal/bytealg.MakeNoZero"], unfollowed := true, recurses := true, apart := false }
def FnExactResourceTextSaid : Prop := fnExactResourceTextRow.holds Try.pinned (OpenSpec.ofChange fnExactResourceTextSpec)

/-- ITS FALSE NEIGHBOUR: 'it returns false'. Refute it at one input. -/
def fnExactResourceTextWrong : ChangeSpec := { name := "fnExactResourceText", fn := fun _ => fun
  | [d] => { results := [.lit (.bool false)], args := [d] }
  | _ => none }
def FnExactResourceTextWrongFalsely : Prop := fnExactResourceTextRow.holds Try.pinned (OpenSpec.ofChange fnExactResourceTextWrong)

/-- 'laws.FnExactSizeOf': WHATEVER THE INPUT: true; the input reads as it did. -/
def fnExactSizeOfSpec : ChangeSpec := { name := "fnExactSizeOf", fn := fun _ => fun
  | [d] => { results := [.lit (.bool true)], args := [d] }
  | _ => none }
def fnExactSizeOfRow : OpenClaim := { program := "ytofhopiikbbakaa", sum := "e2283eae8dc5aa6ec73987f0ba965a69c921cb769fb48f39a8eaafd91443e4d0", func := "loop.example/g03002/laws.FnExactSizeOf", spec := "fnExactSizeOf", apart := false }
def FnExactSizeOfSaid : Prop := fnExactSizeOfRow.holds Try.pinned (OpenSpec.ofChange fnExactSizeOfSpec)

/-- ITS FALSE NEIGHBOUR: 'it returns false'. Refute it at one input. -/
def fnExactSizeOfWrong : ChangeSpec := { name := "fnExactSizeOf", fn := fun _ => fun
  | [d] => { results := [.lit (.bool false)], args := [d] }
  | _ => none }
def FnExactSizeOfWrongFalsely : Prop := fnExactSizeOfRow.holds Try.pinned (OpenSpec.ofChange fnExactSizeOfWrong)

/- THE SECOND FORM. 'bulk': how many values and letters a reading holds, each counted each time it is reached (what is shared counts as often as it is met; a slice's spare places count too). A statement '..UptoSaid' is the law's where the arguments, and the package variables that the reading takes, are together of bulk at most 1048576: NARROWER than '..Said'. Prove '..Said' where nothing that the law and all that it calls make is longer than what came in: it says more and counts as full. Else prove '..UptoSaid'. A law counts once. -/
mutual
def uptoBulk {H : Type} : DataW H → Nat
  | .lit (.string bytes) => bytes.length + 1
  | .lit _ => 1
  | .nil => 1
  | .ptr d => uptoBulk d + 1
  | .slice elems spare => uptoBulkAll elems + uptoBulkAll spare + 1
  | .agg parts => uptoBulkAll parts + 1
  | .iface _ d => uptoBulk d + 1
  | .map entries => uptoBulkEntries entries + 1
  | .held _ => 1
def uptoBulkAll {H : Type} : List (DataW H) → Nat
  | [] => 0
  | d :: r => uptoBulk d + uptoBulkAll r
def uptoBulkEntries {H : Type} : List (Lit × DataW H) → Nat
  | [] => 0
  | x :: r => uptoBulkEntry x + uptoBulkEntries r
def uptoBulkEntry {H : Type} : Lit × DataW H → Nat
  | (.string bytes, d) => bytes.length + uptoBulk d + 1
  | (_, d) => uptoBulk d + 1
 end
def uptoSmall : (H : Type) → List (DataW H) → Bool := fun _ ds => decide (uptoBulkAll ds ≤ 1048576)
def OpenSpec.upto (s : _root_.Go.ChangeSpec) : _root_.Go.OpenSpec := { _root_.Go.OpenSpec.ofChange s with cond := some uptoSmall }

/-- 'laws.FnResources', WHERE WHAT IT READS IS OF BULK AT MOST 1048576: true; the input reads as it did. -/
def fnResourcesUptoRow : OpenClaim := { program := "ytofhopiikbbakaa", sum := "e2283eae8dc5aa6ec73987f0ba965a69c921cb769fb48f39a8eaafd91443e4d0", func := "loop.example/g03002/laws.FnResources", spec := "fnResources", inPlace := ["internal/abi.NoEscape", "internal/bytealg.MakeNoZero"], unfollowed := true, recurses := true, apart := false, narrowed := true }
def FnResourcesUptoSaid : Prop := fnResourcesUptoRow.holds Try.pinned (OpenSpec.upto fnResourcesSpec)

/-- 'laws.FnExactIsResource', WHERE WHAT IT READS IS OF BULK AT MOST 1048576: true; the input reads as it did. -/
def fnExactIsResourceUptoRow : OpenClaim := { program := "ytofhopiikbbakaa", sum := "e2283eae8dc5aa6ec73987f0ba965a69c921cb769fb48f39a8eaafd91443e4d0", func := "loop.example/g03002/laws.FnExactIsResource", spec := "fnExactIsResource", unfollowed := true, recurses := true, apart := false, narrowed := true }
def FnExactIsResourceUptoSaid : Prop := fnExactIsResourceUptoRow.holds Try.pinned (OpenSpec.upto fnExactIsResourceSpec)

/-- 'laws.FnExactResourceInts', WHERE WHAT IT READS IS OF BULK AT MOST 1048576: true; the input reads as it did. -/
def fnExactResourceIntsUptoRow : OpenClaim := { program := "ytofhopiikbbakaa", sum := "e2283eae8dc5aa6ec73987f0ba965a69c921cb769fb48f39a8eaafd91443e4d0", func := "loop.example/g03002/laws.FnExactResourceInts", spec := "fnExactResourceInts", apart := false, narrowed := true }
def FnExactResourceIntsUptoSaid : Prop := fnExactResourceIntsUptoRow.holds Try.pinned (OpenSpec.upto fnExactResourceIntsSpec)

/-- 'laws.FnExactEqualResources', WHERE WHAT IT READS IS OF BULK AT MOST 1048576: true; the input reads as it did. -/
def fnExactEqualResourcesUptoRow : OpenClaim := { program := "ytofhopiikbbakaa", sum := "e2283eae8dc5aa6ec73987f0ba965a69c921cb769fb48f39a8eaafd91443e4d0", func := "loop.example/g03002/laws.FnExactEqualResources", spec := "fnExactEqualResources", apart := false, narrowed := true }
def FnExactEqualResourcesUptoSaid : Prop := fnExactEqualResourcesUptoRow.holds Try.pinned (OpenSpec.upto fnExactEqualResourcesSpec)

/-- 'laws.FnExactResourceText', WHERE WHAT IT READS IS OF BULK AT MOST 1048576: true; the input reads as it did. -/
def fnExactResourceTextUptoRow : OpenClaim := { program := "ytofhopiikbbakaa", sum := "e2283eae8dc5aa6ec73987f0ba965a69c921cb769fb48f39a8eaafd91443e4d0", func := "loop.example/g03002/laws.FnExactResourceText", spec := "fnExactResourceText", inPlace := ["internal/abi.NoEscape", "internal/bytealg.MakeNoZero"], unfollowed := true, recurses := true, apart := false, narrowed := true }
def FnExactResourceTextUptoSaid : Prop := fnExactResourceTextUptoRow.holds Try.pinned (OpenSpec.upto fnExactResourceTextSpec)

/-- 'laws.FnExactSizeOf', WHERE WHAT IT READS IS OF BULK AT MOST 1048576: true; the input reads as it did. -/
def fnExactSizeOfUptoRow : OpenClaim := { program := "ytofhopiikbbakaa", sum := "e2283eae8dc5aa6ec73987f0ba965a69c921cb769fb48f39a8eaafd91443e4d0", func := "loop.example/g03002/laws.FnExactSizeOf", spec := "fnExactSizeOf", apart := false, narrowed := true }
def FnExactSizeOfUptoSaid : Prop := fnExactSizeOfUptoRow.holds Try.pinned (OpenSpec.upto fnExactSizeOfSpec)

end Rows
end Go.Proofs.Ytofhopiikbbakaa
