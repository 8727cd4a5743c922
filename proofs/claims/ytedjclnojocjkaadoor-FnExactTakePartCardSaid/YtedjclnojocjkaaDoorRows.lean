/-
  NARROWER THAN 'FOR EVERY INPUT', by the rows' own cells (each row's printed sentence says how): FnExactIsStore: ifaces, laid · FnExactTakePart: ifaces, laid.
  DERIVED. THE GIVEN ROWS OF THIS SEAT. 2 by the template 'for every input the law returns true; each argument reads behind the call as it read before'; 0 by the template 'total and deterministic' (their statements: YtedjclnojocjkaaDoorTotals.lean).
  GIVEN WITH THE SEED: the statements are not yours to turn. If you find one false, say at which input.
  Laid BY PROGRAM, IN A SANDBOX (cutbox-rows.mjs): the forced cells as the released guide's own fill.sh prints them over the translation 64f6aa44ad2af45f… (all of the seat's roots in one cut). By AI agents, Wed Nov 11 2026. No macro, syntax, notation, axiom, sorry.
-/
import Derived.Test.YtedjclnojocjkaaDoorChecked
import GoSem.Claim
import GoSem.ClaimJoined
import GoSem.ClaimMapViews
import Derived.JoinedTies
import Derived.KernelRfl
namespace Go.Proofs.YtedjclnojocjkaaDoor
/- THE CELL 'sum', in the pinned program and in every row, IS THE sha256 OF THE DUMP (.gsa) THAT YtedjclnojocjkaaDoorProg.lean LOADS. Nothing in Lean hashes anything: it is a label: what it is worth is what the hold of that sum in a sandbox is worth. -/
noncomputable def Tryd.pinned : Pinned := { name := "ytedjclnojocjkaadoor", sum := "64f6aa44ad2af45fe2897dfc21d0090e900039915278e3ea51a059e79e50c0ea", checked := Tryd.checked }
namespace Rows
def none {H : Type} : Left H := { results := [], args := [] }

/- WHAT THE LISTED PACKAGE-LEVEL VARIABLES READ AS WHEN THE CALL BEGINS. Each datum BY PROGRAM (the guide's laid-datum.mjs) off the statement by which the dump's own 'gosem.cut.vars' lays the variable. In a bare row this is a premise. The card (YtedjclnojocjkaaDoorCards.lean) ties it to the program's text. -/
def laid_loop_example_g03002_impl_errNoStore {H : Type} : DataW H := .iface "*errors.errorString" (.ptr (.agg [.lit (.string [116, 104, 101, 32, 108, 105, 115, 116, 32, 105, 115, 32, 110, 111, 116, 32, 97, 32, 115, 116, 111, 114, 101])]))
def laid_loop_example_g03002_impl_errNoPart {H : Type} : DataW H := .iface "*errors.errorString" (.ptr (.agg [.lit (.string [110, 111, 32, 112, 97, 114, 116, 32, 104, 97, 115, 32, 116, 104, 105, 115, 32, 100, 105, 103, 101, 115, 116])]))

/-- 'laws.FnExactIsStore': WHATEVER THE INPUT: true; the input reads as it did. -/
def fnExactIsStoreSpec : ChangeSpec := { name := "fnExactIsStore", vars := ["loop.example/g03002/impl.errNoStore"], fn := fun _ => fun
  | [d, g1] => { results := [.lit (.bool true)], args := [d], vars := [g1] }
  | _ => none }
def fnExactIsStoreRow : OpenClaim := { program := "ytedjclnojocjkaadoor", sum := "64f6aa44ad2af45fe2897dfc21d0090e900039915278e3ea51a059e79e50c0ea", func := "loop.example/g03002/laws.FnExactIsStore", spec := "fnExactIsStore", inPlace := ["internal/reflectlite.TypeOf"], unfollowed := true, recurses := true, named := ["loop.example/g03002/impl.errNoStore"], ifaces := true, apart := false, laid := [("loop.example/g03002/impl.errNoStore", laid_loop_example_g03002_impl_errNoStore)] }
def FnExactIsStoreSaid : Prop := fnExactIsStoreRow.holds Tryd.pinned (OpenSpec.ofChange fnExactIsStoreSpec)

/-- ITS FALSE NEIGHBOUR: 'it returns false'. Refute it at one input. -/
def fnExactIsStoreWrong : ChangeSpec := { name := "fnExactIsStore", vars := ["loop.example/g03002/impl.errNoStore"], fn := fun _ => fun
  | [d, g1] => { results := [.lit (.bool false)], args := [d], vars := [g1] }
  | _ => none }
def FnExactIsStoreWrongFalsely : Prop := fnExactIsStoreRow.holds Tryd.pinned (OpenSpec.ofChange fnExactIsStoreWrong)

/-- 'laws.FnExactTakePart': WHATEVER THE INPUT: true; the input reads as it did. -/
def fnExactTakePartSpec : ChangeSpec := { name := "fnExactTakePart", vars := ["loop.example/g03002/impl.errNoPart", "loop.example/g03002/impl.errNoStore"], fn := fun _ => fun
  | [d1, d2, g1, g2] => { results := [.lit (.bool true)], args := [d1, d2], vars := [g1, g2] }
  | _ => none }
def fnExactTakePartRow : OpenClaim := { program := "ytedjclnojocjkaadoor", sum := "64f6aa44ad2af45fe2897dfc21d0090e900039915278e3ea51a059e79e50c0ea", func := "loop.example/g03002/laws.FnExactTakePart", spec := "fnExactTakePart", unfollowed := true, recurses := true, named := ["loop.example/g03002/impl.errNoPart", "loop.example/g03002/impl.errNoStore"], ifaces := true, apart := false, laid := [("loop.example/g03002/impl.errNoStore", laid_loop_example_g03002_impl_errNoStore), ("loop.example/g03002/impl.errNoPart", laid_loop_example_g03002_impl_errNoPart)] }
def FnExactTakePartSaid : Prop := fnExactTakePartRow.holds Tryd.pinned (OpenSpec.ofChange fnExactTakePartSpec)

/-- ITS FALSE NEIGHBOUR: 'it returns false'. Refute it at one input. -/
def fnExactTakePartWrong : ChangeSpec := { name := "fnExactTakePart", vars := ["loop.example/g03002/impl.errNoPart", "loop.example/g03002/impl.errNoStore"], fn := fun _ => fun
  | [d1, d2, g1, g2] => { results := [.lit (.bool false)], args := [d1, d2], vars := [g1, g2] }
  | _ => none }
def FnExactTakePartWrongFalsely : Prop := fnExactTakePartRow.holds Tryd.pinned (OpenSpec.ofChange fnExactTakePartWrong)

/- THE SECOND FORM. 'bulk': how many values and letters a reading holds, each counted each time it is reached (what is shared counts as often as it is met; a slice's spare places count too). A statement '..UptoSaid' is the law's where the arguments, and the package variables that the reading takes, are together of bulk at most 1048576: NARROWER than '..Said'. Prove '..Said' where nothing that the law and all that it calls make is longer than what came in: it says more and counts as full. Else prove '..UptoSaid'. A law counts once. -/
mutual
def uptoBulk {H : Type} : DataW H → Nat
  | .lit (.string bytes) => bytes.length + 1
  | .lit _ => 1
  | .nil => 1
  | .ptr d => uptoBulk d + 1
  | .slice elems spare => uptoBulkAll elems + uptoBulkAll spare + 1
  | .agg parts => uptoBulkAll parts + 1
  | .iface _ d => uptoBulk d + 1
  | .map entries => uptoBulkEntries entries + 1
  | .held _ => 1
def uptoBulkAll {H : Type} : List (DataW H) → Nat
  | [] => 0
  | d :: r => uptoBulk d + uptoBulkAll r
def uptoBulkEntries {H : Type} : List (Lit × DataW H) → Nat
  | [] => 0
  | x :: r => uptoBulkEntry x + uptoBulkEntries r
def uptoBulkEntry {H : Type} : Lit × DataW H → Nat
  | (.string bytes, d) => bytes.length + uptoBulk d + 1
  | (_, d) => uptoBulk d + 1
 end
def uptoSmall : (H : Type) → List (DataW H) → Bool := fun _ ds => decide (uptoBulkAll ds ≤ 1048576)
def OpenSpec.upto (s : _root_.Go.ChangeSpec) : _root_.Go.OpenSpec := { _root_.Go.OpenSpec.ofChange s with cond := some uptoSmall }

/-- 'laws.FnExactIsStore', WHERE WHAT IT READS IS OF BULK AT MOST 1048576: true; the input reads as it did. -/
def fnExactIsStoreUptoRow : OpenClaim := { program := "ytedjclnojocjkaadoor", sum := "64f6aa44ad2af45fe2897dfc21d0090e900039915278e3ea51a059e79e50c0ea", func := "loop.example/g03002/laws.FnExactIsStore", spec := "fnExactIsStore", inPlace := ["internal/reflectlite.TypeOf"], unfollowed := true, recurses := true, named := ["loop.example/g03002/impl.errNoStore"], ifaces := true, apart := false, laid := [("loop.example/g03002/impl.errNoStore", laid_loop_example_g03002_impl_errNoStore)], narrowed := true }
def FnExactIsStoreUptoSaid : Prop := fnExactIsStoreUptoRow.holds Tryd.pinned (OpenSpec.upto fnExactIsStoreSpec)

/-- 'laws.FnExactTakePart', WHERE WHAT IT READS IS OF BULK AT MOST 1048576: true; the input reads as it did. -/
def fnExactTakePartUptoRow : OpenClaim := { program := "ytedjclnojocjkaadoor", sum := "64f6aa44ad2af45fe2897dfc21d0090e900039915278e3ea51a059e79e50c0ea", func := "loop.example/g03002/laws.FnExactTakePart", spec := "fnExactTakePart", unfollowed := true, recurses := true, named := ["loop.example/g03002/impl.errNoPart", "loop.example/g03002/impl.errNoStore"], ifaces := true, apart := false, laid := [("loop.example/g03002/impl.errNoStore", laid_loop_example_g03002_impl_errNoStore), ("loop.example/g03002/impl.errNoPart", laid_loop_example_g03002_impl_errNoPart)], narrowed := true }
def FnExactTakePartUptoSaid : Prop := fnExactTakePartUptoRow.holds Tryd.pinned (OpenSpec.upto fnExactTakePartSpec)

end Rows
end Go.Proofs.YtedjclnojocjkaaDoor
