/-
  No cell of these rows narrows 'for every input' (looked for: loops, veiled, ifaces, maps, wideKeys, modest, calm, conditions, laid).
  DERIVED. THE GIVEN ROWS OF THIS SEAT. 3 by the template 'for every input the law returns true; each argument reads behind the call as it read before'; 0 by the template 'total and deterministic' (their statements: YtedjclnojocjkaaTotals.lean).
  GIVEN WITH THE SEED: the statements are not yours to turn. If you find one false, say at which input.
  Laid BY PROGRAM, IN A SANDBOX (cutbox-rows.mjs): the forced cells as the released guide's own fill.sh prints them over the translation 7fe61d2887e59c3c… (all of the seat's roots in one cut). By AI agents, Wed Nov 11 2026. No macro, syntax, notation, axiom, sorry.
-/
import Derived.Test.YtedjclnojocjkaaChecked
import GoSem.Claim
import GoSem.ClaimJoined
import GoSem.ClaimMapViews
import Derived.JoinedTies
import Derived.KernelRfl
namespace Go.Proofs.Ytedjclnojocjkaa
/- THE CELL 'sum', in the pinned program and in every row, IS THE sha256 OF THE DUMP (.gsa) THAT YtedjclnojocjkaaProg.lean LOADS. Nothing in Lean hashes anything: it is a label: what it is worth is what the hold of that sum in a sandbox is worth. -/
noncomputable def Try.pinned : Pinned := { name := "ytedjclnojocjkaa", sum := "7fe61d2887e59c3c4e34af131f6710cd2bece2686c2e003d00d303114d4cbe90", checked := Try.checked }
namespace Rows
def none {H : Type} : Left H := { results := [], args := [] }

/-- 'laws.FnExactGetPart': WHATEVER THE INPUT: true; the input reads as it did. -/
def fnExactGetPartSpec : ChangeSpec := { name := "fnExactGetPart", fn := fun _ => fun
  | [d1, d2] => { results := [.lit (.bool true)], args := [d1, d2] }
  | _ => none }
def fnExactGetPartRow : OpenClaim := { program := "ytedjclnojocjkaa", sum := "7fe61d2887e59c3c4e34af131f6710cd2bece2686c2e003d00d303114d4cbe90", func := "loop.example/g03002/laws.FnExactGetPart", spec := "fnExactGetPart", unfollowed := true, recurses := true, apart := false }
def FnExactGetPartSaid : Prop := fnExactGetPartRow.holds Try.pinned (OpenSpec.ofChange fnExactGetPartSpec)

/-- ITS FALSE NEIGHBOUR: 'it returns false'. Refute it at one input. -/
def fnExactGetPartWrong : ChangeSpec := { name := "fnExactGetPart", fn := fun _ => fun
  | [d1, d2] => { results := [.lit (.bool false)], args := [d1, d2] }
  | _ => none }
def FnExactGetPartWrongFalsely : Prop := fnExactGetPartRow.holds Try.pinned (OpenSpec.ofChange fnExactGetPartWrong)

/-- 'laws.FnExactStoredSize': WHATEVER THE INPUT: true; the input reads as it did. -/
def fnExactStoredSizeSpec : ChangeSpec := { name := "fnExactStoredSize", fn := fun _ => fun
  | [d] => { results := [.lit (.bool true)], args := [d] }
  | _ => none }
def fnExactStoredSizeRow : OpenClaim := { program := "ytedjclnojocjkaa", sum := "7fe61d2887e59c3c4e34af131f6710cd2bece2686c2e003d00d303114d4cbe90", func := "loop.example/g03002/laws.FnExactStoredSize", spec := "fnExactStoredSize", unfollowed := true, recurses := true, apart := false }
def FnExactStoredSizeSaid : Prop := fnExactStoredSizeRow.holds Try.pinned (OpenSpec.ofChange fnExactStoredSizeSpec)

/-- ITS FALSE NEIGHBOUR: 'it returns false'. Refute it at one input. -/
def fnExactStoredSizeWrong : ChangeSpec := { name := "fnExactStoredSize", fn := fun _ => fun
  | [d] => { results := [.lit (.bool false)], args := [d] }
  | _ => none }
def FnExactStoredSizeWrongFalsely : Prop := fnExactStoredSizeRow.holds Try.pinned (OpenSpec.ofChange fnExactStoredSizeWrong)

/-- 'laws.FnExactEqualStores': WHATEVER THE INPUT: true; the input reads as it did. -/
def fnExactEqualStoresSpec : ChangeSpec := { name := "fnExactEqualStores", fn := fun _ => fun
  | [d1, d2] => { results := [.lit (.bool true)], args := [d1, d2] }
  | _ => none }
def fnExactEqualStoresRow : OpenClaim := { program := "ytedjclnojocjkaa", sum := "7fe61d2887e59c3c4e34af131f6710cd2bece2686c2e003d00d303114d4cbe90", func := "loop.example/g03002/laws.FnExactEqualStores", spec := "fnExactEqualStores", unfollowed := true, recurses := true, apart := false }
def FnExactEqualStoresSaid : Prop := fnExactEqualStoresRow.holds Try.pinned (OpenSpec.ofChange fnExactEqualStoresSpec)

/-- ITS FALSE NEIGHBOUR: 'it returns false'. Refute it at one input. -/
def fnExactEqualStoresWrong : ChangeSpec := { name := "fnExactEqualStores", fn := fun _ => fun
  | [d1, d2] => { results := [.lit (.bool false)], args := [d1, d2] }
  | _ => none }
def FnExactEqualStoresWrongFalsely : Prop := fnExactEqualStoresRow.holds Try.pinned (OpenSpec.ofChange fnExactEqualStoresWrong)

/- THE SECOND FORM. 'bulk': how many values and letters a reading holds, each counted each time it is reached (what is shared counts as often as it is met; a slice's spare places count too). A statement '..UptoSaid' is the law's where the arguments, and the package variables that the reading takes, are together of bulk at most 1048576: NARROWER than '..Said'. Prove '..Said' where nothing that the law and all that it calls make is longer than what came in: it says more and counts as full. Else prove '..UptoSaid'. A law counts once. -/
mutual
def uptoBulk {H : Type} : DataW H → Nat
  | .lit (.string bytes) => bytes.length + 1
  | .lit _ => 1
  | .nil => 1
  | .ptr d => uptoBulk d + 1
  | .slice elems spare => uptoBulkAll elems + uptoBulkAll spare + 1
  | .agg parts => uptoBulkAll parts + 1
  | .iface _ d => uptoBulk d + 1
  | .map entries => uptoBulkEntries entries + 1
  | .held _ => 1
def uptoBulkAll {H : Type} : List (DataW H) → Nat
  | [] => 0
  | d :: r => uptoBulk d + uptoBulkAll r
def uptoBulkEntries {H : Type} : List (Lit × DataW H) → Nat
  | [] => 0
  | x :: r => uptoBulkEntry x + uptoBulkEntries r
def uptoBulkEntry {H : Type} : Lit × DataW H → Nat
  | (.string bytes, d) => bytes.length + uptoBulk d + 1
  | (_, d) => uptoBulk d + 1
 end
def uptoSmall : (H : Type) → List (DataW H) → Bool := fun _ ds => decide (uptoBulkAll ds ≤ 1048576)
def OpenSpec.upto (s : _root_.Go.ChangeSpec) : _root_.Go.OpenSpec := { _root_.Go.OpenSpec.ofChange s with cond := some uptoSmall }

/-- 'laws.FnExactGetPart', WHERE WHAT IT READS IS OF BULK AT MOST 1048576: true; the input reads as it did. -/
def fnExactGetPartUptoRow : OpenClaim := { program := "ytedjclnojocjkaa", sum := "7fe61d2887e59c3c4e34af131f6710cd2bece2686c2e003d00d303114d4cbe90", func := "loop.example/g03002/laws.FnExactGetPart", spec := "fnExactGetPart", unfollowed := true, recurses := true, apart := false, narrowed := true }
def FnExactGetPartUptoSaid : Prop := fnExactGetPartUptoRow.holds Try.pinned (OpenSpec.upto fnExactGetPartSpec)

/-- 'laws.FnExactStoredSize', WHERE WHAT IT READS IS OF BULK AT MOST 1048576: true; the input reads as it did. -/
def fnExactStoredSizeUptoRow : OpenClaim := { program := "ytedjclnojocjkaa", sum := "7fe61d2887e59c3c4e34af131f6710cd2bece2686c2e003d00d303114d4cbe90", func := "loop.example/g03002/laws.FnExactStoredSize", spec := "fnExactStoredSize", unfollowed := true, recurses := true, apart := false, narrowed := true }
def FnExactStoredSizeUptoSaid : Prop := fnExactStoredSizeUptoRow.holds Try.pinned (OpenSpec.upto fnExactStoredSizeSpec)

/-- 'laws.FnExactEqualStores', WHERE WHAT IT READS IS OF BULK AT MOST 1048576: true; the input reads as it did. -/
def fnExactEqualStoresUptoRow : OpenClaim := { program := "ytedjclnojocjkaa", sum := "7fe61d2887e59c3c4e34af131f6710cd2bece2686c2e003d00d303114d4cbe90", func := "loop.example/g03002/laws.FnExactEqualStores", spec := "fnExactEqualStores", unfollowed := true, recurses := true, apart := false, narrowed := true }
def FnExactEqualStoresUptoSaid : Prop := fnExactEqualStoresUptoRow.holds Try.pinned (OpenSpec.upto fnExactEqualStoresSpec)

end Rows
end Go.Proofs.Ytedjclnojocjkaa
