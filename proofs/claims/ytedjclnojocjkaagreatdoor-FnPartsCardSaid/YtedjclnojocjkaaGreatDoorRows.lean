/-
  NARROWER THAN 'FOR EVERY INPUT', by the rows' own cells (each row's printed sentence says how): FnParts: ifaces, laid · FnExactPutPart: ifaces, laid.
  DERIVED. THE GIVEN ROWS OF THIS SEAT. 2 by the template 'for every input the law returns true; each argument reads behind the call as it read before'; 0 by the template 'total and deterministic' (their statements: YtedjclnojocjkaaGreatDoorTotals.lean).
  GIVEN WITH THE SEED: the statements are not yours to turn. If you find one false, say at which input.
  Laid BY PROGRAM, IN A SANDBOX (cutbox-rows.mjs): the forced cells as the released guide's own fill.sh prints them over the translation 8bed2832ad59e65f… (all of the seat's roots in one cut). By AI agents, Wed Nov 11 2026. No macro, syntax, notation, axiom, sorry.
-/
import Derived.Test.YtedjclnojocjkaaGreatDoorChecked
import GoSem.Claim
import GoSem.ClaimJoined
import GoSem.ClaimMapViews
import Derived.JoinedTies
import Derived.KernelRfl
namespace Go.Proofs.YtedjclnojocjkaaGreatDoor
/- THE CELL 'sum', in the pinned program and in every row, IS THE sha256 OF THE DUMP (.gsa) THAT YtedjclnojocjkaaGreatDoorProg.lean LOADS. Nothing in Lean hashes anything: it is a label: what it is worth is what the hold of that sum in a sandbox is worth. -/
noncomputable def Tryz.pinned : Pinned := { name := "ytedjclnojocjkaagreatdoor", sum := "8bed2832ad59e65f465e8236a1a60f827a8995d8e0f15f244926f61d947f7e1c", checked := Tryz.checked }
namespace Rows
def none {H : Type} : Left H := { results := [], args := [] }

/- WHAT THE LISTED PACKAGE-LEVEL VARIABLES READ AS WHEN THE CALL BEGINS. Each datum BY PROGRAM (the guide's laid-datum.mjs) off the statement by which the dump's own 'gosem.cut.vars' lays the variable. In a bare row this is a premise. The card (YtedjclnojocjkaaGreatDoorCards.lean) ties it to the program's text. -/
def laid_loop_example_g03002_impl_errNoStore {H : Type} : DataW H := .iface "*errors.errorString" (.ptr (.agg [.lit (.string [116, 104, 101, 32, 108, 105, 115, 116, 32, 105, 115, 32, 110, 111, 116, 32, 97, 32, 115, 116, 111, 114, 101])]))
def laid_loop_example_g03002_impl_errNoPart {H : Type} : DataW H := .iface "*errors.errorString" (.ptr (.agg [.lit (.string [110, 111, 32, 112, 97, 114, 116, 32, 104, 97, 115, 32, 116, 104, 105, 115, 32, 100, 105, 103, 101, 115, 116])]))

/-- 'laws.FnParts': WHATEVER THE INPUT: true; the input reads as it did. -/
def fnPartsSpec : ChangeSpec := { name := "fnParts", vars := ["loop.example/g03002/impl.errNoPart", "loop.example/g03002/impl.errNoStore"], fn := fun _ => fun
  | [d, g1, g2] => { results := [.lit (.bool true)], args := [d], vars := [g1, g2] }
  | _ => none }
def fnPartsRow : OpenClaim := { program := "ytedjclnojocjkaagreatdoor", sum := "8bed2832ad59e65f465e8236a1a60f827a8995d8e0f15f244926f61d947f7e1c", func := "loop.example/g03002/laws.FnParts", spec := "fnParts", inPlace := ["internal/reflectlite.TypeOf"], unfollowed := true, recurses := true, named := ["loop.example/g03002/impl.errNoPart", "loop.example/g03002/impl.errNoStore"], ifaces := true, apart := false, laid := [("loop.example/g03002/impl.errNoStore", laid_loop_example_g03002_impl_errNoStore), ("loop.example/g03002/impl.errNoPart", laid_loop_example_g03002_impl_errNoPart)] }
def FnPartsSaid : Prop := fnPartsRow.holds Tryz.pinned (OpenSpec.ofChange fnPartsSpec)

/-- ITS FALSE NEIGHBOUR: 'it returns false'. Refute it at one input. -/
def fnPartsWrong : ChangeSpec := { name := "fnParts", vars := ["loop.example/g03002/impl.errNoPart", "loop.example/g03002/impl.errNoStore"], fn := fun _ => fun
  | [d, g1, g2] => { results := [.lit (.bool false)], args := [d], vars := [g1, g2] }
  | _ => none }
def FnPartsWrongFalsely : Prop := fnPartsRow.holds Tryz.pinned (OpenSpec.ofChange fnPartsWrong)

/-- 'laws.FnExactPutPart': WHATEVER THE INPUT: true; the input reads as it did. -/
def fnExactPutPartSpec : ChangeSpec := { name := "fnExactPutPart", vars := ["loop.example/g03002/impl.errNoPart", "loop.example/g03002/impl.errNoStore"], fn := fun _ => fun
  | [d1, d2, g1, g2] => { results := [.lit (.bool true)], args := [d1, d2], vars := [g1, g2] }
  | _ => none }
def fnExactPutPartRow : OpenClaim := { program := "ytedjclnojocjkaagreatdoor", sum := "8bed2832ad59e65f465e8236a1a60f827a8995d8e0f15f244926f61d947f7e1c", func := "loop.example/g03002/laws.FnExactPutPart", spec := "fnExactPutPart", inPlace := ["internal/reflectlite.TypeOf"], unfollowed := true, recurses := true, named := ["loop.example/g03002/impl.errNoPart", "loop.example/g03002/impl.errNoStore"], ifaces := true, apart := false, laid := [("loop.example/g03002/impl.errNoStore", laid_loop_example_g03002_impl_errNoStore), ("loop.example/g03002/impl.errNoPart", laid_loop_example_g03002_impl_errNoPart)] }
def FnExactPutPartSaid : Prop := fnExactPutPartRow.holds Tryz.pinned (OpenSpec.ofChange fnExactPutPartSpec)

/-- ITS FALSE NEIGHBOUR: 'it returns false'. Refute it at one input. -/
def fnExactPutPartWrong : ChangeSpec := { name := "fnExactPutPart", vars := ["loop.example/g03002/impl.errNoPart", "loop.example/g03002/impl.errNoStore"], fn := fun _ => fun
  | [d1, d2, g1, g2] => { results := [.lit (.bool false)], args := [d1, d2], vars := [g1, g2] }
  | _ => none }
def FnExactPutPartWrongFalsely : Prop := fnExactPutPartRow.holds Tryz.pinned (OpenSpec.ofChange fnExactPutPartWrong)

/- THE SECOND FORM. 'bulk': how many values and letters a reading holds, each counted each time it is reached (what is shared counts as often as it is met; a slice's spare places count too). A statement '..UptoSaid' is the law's where the arguments, and the package variables that the reading takes, are together of bulk at most 1048576: NARROWER than '..Said'. Prove '..Said' where nothing that the law and all that it calls make is longer than what came in: it says more and counts as full. Else prove '..UptoSaid'. A law counts once. -/
mutual
def uptoBulk {H : Type} : DataW H → Nat
  | .lit (.string bytes) => bytes.length + 1
  | .lit _ => 1
  | .nil => 1
  | .ptr d => uptoBulk d + 1
  | .slice elems spare => uptoBulkAll elems + uptoBulkAll spare + 1
  | .agg parts => uptoBulkAll parts + 1
  | .iface _ d => uptoBulk d + 1
  | .map entries => uptoBulkEntries entries + 1
  | .held _ => 1
def uptoBulkAll {H : Type} : List (DataW H) → Nat
  | [] => 0
  | d :: r => uptoBulk d + uptoBulkAll r
def uptoBulkEntries {H : Type} : List (Lit × DataW H) → Nat
  | [] => 0
  | x :: r => uptoBulkEntry x + uptoBulkEntries r
def uptoBulkEntry {H : Type} : Lit × DataW H → Nat
  | (.string bytes, d) => bytes.length + uptoBulk d + 1
  | (_, d) => uptoBulk d + 1
 end
def uptoSmall : (H : Type) → List (DataW H) → Bool := fun _ ds => decide (uptoBulkAll ds ≤ 1048576)
def OpenSpec.upto (s : _root_.Go.ChangeSpec) : _root_.Go.OpenSpec := { _root_.Go.OpenSpec.ofChange s with cond := some uptoSmall }

/-- 'laws.FnParts', WHERE WHAT IT READS IS OF BULK AT MOST 1048576: true; the input reads as it did. -/
def fnPartsUptoRow : OpenClaim := { program := "ytedjclnojocjkaagreatdoor", sum := "8bed2832ad59e65f465e8236a1a60f827a8995d8e0f15f244926f61d947f7e1c", func := "loop.example/g03002/laws.FnParts", spec := "fnParts", inPlace := ["internal/reflectlite.TypeOf"], unfollowed := true, recurses := true, named := ["loop.example/g03002/impl.errNoPart", "loop.example/g03002/impl.errNoStore"], ifaces := true, apart := false, laid := [("loop.example/g03002/impl.errNoStore", laid_loop_example_g03002_impl_errNoStore), ("loop.example/g03002/impl.errNoPart", laid_loop_example_g03002_impl_errNoPart)], narrowed := true }
def FnPartsUptoSaid : Prop := fnPartsUptoRow.holds Tryz.pinned (OpenSpec.upto fnPartsSpec)

/-- 'laws.FnExactPutPart', WHERE WHAT IT READS IS OF BULK AT MOST 1048576: true; the input reads as it did. -/
def fnExactPutPartUptoRow : OpenClaim := { program := "ytedjclnojocjkaagreatdoor", sum := "8bed2832ad59e65f465e8236a1a60f827a8995d8e0f15f244926f61d947f7e1c", func := "loop.example/g03002/laws.FnExactPutPart", spec := "fnExactPutPart", inPlace := ["internal/reflectlite.TypeOf"], unfollowed := true, recurses := true, named := ["loop.example/g03002/impl.errNoPart", "loop.example/g03002/impl.errNoStore"], ifaces := true, apart := false, laid := [("loop.example/g03002/impl.errNoStore", laid_loop_example_g03002_impl_errNoStore), ("loop.example/g03002/impl.errNoPart", laid_loop_example_g03002_impl_errNoPart)], narrowed := true }
def FnExactPutPartUptoSaid : Prop := fnExactPutPartUptoRow.holds Tryz.pinned (OpenSpec.upto fnExactPutPartSpec)

end Rows
end Go.Proofs.YtedjclnojocjkaaGreatDoor
