/-
  No cell of these rows narrows 'for every input' (looked for: loops, veiled, ifaces, maps, wideKeys, modest, calm, conditions, laid).
  DERIVED. THE GIVEN ROWS OF THIS SEAT. 5 by the template 'for every input the law returns true; each argument reads behind the call as it read before'; 0 by the template 'total and deterministic' (their statements: YtagnhfalmefbhaaTotals.lean).
  GIVEN WITH THE SEED: the statements are not yours to turn. If you find one false, say at which input.
  Laid BY PROGRAM, IN A SANDBOX (cutbox-rows.mjs): the forced cells as the released guide's own fill.sh prints them over the translation 05962c2f149eb9a5… (all of the seat's roots in one cut). By AI agents, Wed Nov 11 2026. No macro, syntax, notation, axiom, sorry.
-/
import Derived.Test.YtagnhfalmefbhaaChecked
import GoSem.Claim
import GoSem.ClaimJoined
import GoSem.ClaimMapViews
import Derived.JoinedTies
import Derived.KernelRfl
namespace Go.Proofs.Ytagnhfalmefbhaa
/- THE CELL 'sum', in the pinned program and in every row, IS THE sha256 OF THE DUMP (.gsa) THAT YtagnhfalmefbhaaProg.lean LOADS. Nothing in Lean hashes anything: it is a label: what it is worth is what the hold of that sum in a sandbox is worth. -/
noncomputable def Try.pinned : Pinned := { name := "ytagnhfalmefbhaa", sum := "05962c2f149eb9a543b08e3df36209a00c7703c691b867a83b9fdd7b0e7d30f4", checked := Try.checked }
namespace Rows
def none {H : Type} : Left H := { results := [], args := [] }

/-- 'laws.FnVisits': WHATEVER THE INPUT: true; the input reads as it did. -/
def fnVisitsSpec : ChangeSpec := { name := "fnVisits", fn := fun _ => fun
  | [d] => { results := [.lit (.bool true)], args := [d] }
  | _ => none }
def fnVisitsRow : OpenClaim := { program := "ytagnhfalmefbhaa", sum := "05962c2f149eb9a543b08e3df36209a00c7703c691b867a83b9fdd7b0e7d30f4", func := "loop.example/g03002/laws.FnVisits", spec := "fnVisits", unfollowed := true, recurses := true, plainKeys := false, apart := false }
def FnVisitsSaid : Prop := fnVisitsRow.holds Try.pinned (OpenSpec.ofChange fnVisitsSpec)

/-- ITS FALSE NEIGHBOUR: 'it returns false'. Refute it at one input. -/
def fnVisitsWrong : ChangeSpec := { name := "fnVisits", fn := fun _ => fun
  | [d] => { results := [.lit (.bool false)], args := [d] }
  | _ => none }
def FnVisitsWrongFalsely : Prop := fnVisitsRow.holds Try.pinned (OpenSpec.ofChange fnVisitsWrong)

/-- 'laws.FnExactIsVisit': WHATEVER THE INPUT: true; the input reads as it did. -/
def fnExactIsVisitSpec : ChangeSpec := { name := "fnExactIsVisit", fn := fun _ => fun
  | [d] => { results := [.lit (.bool true)], args := [d] }
  | _ => none }
def fnExactIsVisitRow : OpenClaim := { program := "ytagnhfalmefbhaa", sum := "05962c2f149eb9a543b08e3df36209a00c7703c691b867a83b9fdd7b0e7d30f4", func := "loop.example/g03002/laws.FnExactIsVisit", spec := "fnExactIsVisit", unfollowed := true, recurses := true, plainKeys := false, apart := false }
def FnExactIsVisitSaid : Prop := fnExactIsVisitRow.holds Try.pinned (OpenSpec.ofChange fnExactIsVisitSpec)

/-- ITS FALSE NEIGHBOUR: 'it returns false'. Refute it at one input. -/
def fnExactIsVisitWrong : ChangeSpec := { name := "fnExactIsVisit", fn := fun _ => fun
  | [d] => { results := [.lit (.bool false)], args := [d] }
  | _ => none }
def FnExactIsVisitWrongFalsely : Prop := fnExactIsVisitRow.holds Try.pinned (OpenSpec.ofChange fnExactIsVisitWrong)

/-- 'laws.FnExactValueOfResource': WHATEVER THE INPUT: true; the input reads as it did. -/
def fnExactValueOfResourceSpec : ChangeSpec := { name := "fnExactValueOfResource", fn := fun _ => fun
  | [d] => { results := [.lit (.bool true)], args := [d] }
  | _ => none }
def fnExactValueOfResourceRow : OpenClaim := { program := "ytagnhfalmefbhaa", sum := "05962c2f149eb9a543b08e3df36209a00c7703c691b867a83b9fdd7b0e7d30f4", func := "loop.example/g03002/laws.FnExactValueOfResource", spec := "fnExactValueOfResource", unfollowed := true, recurses := true, plainKeys := false, apart := false }
def FnExactValueOfResourceSaid : Prop := fnExactValueOfResourceRow.holds Try.pinned (OpenSpec.ofChange fnExactValueOfResourceSpec)

/-- ITS FALSE NEIGHBOUR: 'it returns false'. Refute it at one input. -/
def fnExactValueOfResourceWrong : ChangeSpec := { name := "fnExactValueOfResource", fn := fun _ => fun
  | [d] => { results := [.lit (.bool false)], args := [d] }
  | _ => none }
def FnExactValueOfResourceWrongFalsely : Prop := fnExactValueOfResourceRow.holds Try.pinned (OpenSpec.ofChange fnExactValueOfResourceWrong)

/-- 'laws.FnExactLiveValue': WHATEVER THE INPUT: true; the input reads as it did. -/
def fnExactLiveValueSpec : ChangeSpec := { name := "fnExactLiveValue", fn := fun _ => fun
  | [d1, d2, d3] => { results := [.lit (.bool true)], args := [d1, d2, d3] }
  | _ => none }
def fnExactLiveValueRow : OpenClaim := { program := "ytagnhfalmefbhaa", sum := "05962c2f149eb9a543b08e3df36209a00c7703c691b867a83b9fdd7b0e7d30f4", func := "loop.example/g03002/laws.FnExactLiveValue", spec := "fnExactLiveValue", unfollowed := true, recurses := true, plainKeys := false, apart := false }
def FnExactLiveValueSaid : Prop := fnExactLiveValueRow.holds Try.pinned (OpenSpec.ofChange fnExactLiveValueSpec)

/-- ITS FALSE NEIGHBOUR: 'it returns false'. Refute it at one input. -/
def fnExactLiveValueWrong : ChangeSpec := { name := "fnExactLiveValue", fn := fun _ => fun
  | [d1, d2, d3] => { results := [.lit (.bool false)], args := [d1, d2, d3] }
  | _ => none }
def FnExactLiveValueWrongFalsely : Prop := fnExactLiveValueRow.holds Try.pinned (OpenSpec.ofChange fnExactLiveValueWrong)

/-- 'laws.FnExactAddressesFrom': WHATEVER THE INPUT: true; the input reads as it did. -/
def fnExactAddressesFromSpec : ChangeSpec := { name := "fnExactAddressesFrom", fn := fun _ => fun
  | [d1, d2, d3] => { results := [.lit (.bool true)], args := [d1, d2, d3] }
  | _ => none }
def fnExactAddressesFromRow : OpenClaim := { program := "ytagnhfalmefbhaa", sum := "05962c2f149eb9a543b08e3df36209a00c7703c691b867a83b9fdd7b0e7d30f4", func := "loop.example/g03002/laws.FnExactAddressesFrom", spec := "fnExactAddressesFrom", unfollowed := true, recurses := true, plainKeys := false, apart := false }
def FnExactAddressesFromSaid : Prop := fnExactAddressesFromRow.holds Try.pinned (OpenSpec.ofChange fnExactAddressesFromSpec)

/-- ITS FALSE NEIGHBOUR: 'it returns false'. Refute it at one input. -/
def fnExactAddressesFromWrong : ChangeSpec := { name := "fnExactAddressesFrom", fn := fun _ => fun
  | [d1, d2, d3] => { results := [.lit (.bool false)], args := [d1, d2, d3] }
  | _ => none }
def FnExactAddressesFromWrongFalsely : Prop := fnExactAddressesFromRow.holds Try.pinned (OpenSpec.ofChange fnExactAddressesFromWrong)

/- THE SECOND FORM. 'bulk': how many values and letters a reading holds, each counted each time it is reached (what is shared counts as often as it is met; a slice's spare places count too). A statement '..UptoSaid' is the law's where the arguments, and the package variables that the reading takes, are together of bulk at most 1048576: NARROWER than '..Said'. Prove '..Said' where nothing that the law and all that it calls make is longer than what came in: it says more and counts as full. Else prove '..UptoSaid'. A law counts once. -/
mutual
def uptoBulk {H : Type} : DataW H → Nat
  | .lit (.string bytes) => bytes.length + 1
  | .lit _ => 1
  | .nil => 1
  | .ptr d => uptoBulk d + 1
  | .slice elems spare => uptoBulkAll elems + uptoBulkAll spare + 1
  | .agg parts => uptoBulkAll parts + 1
  | .iface _ d => uptoBulk d + 1
  | .map entries => uptoBulkEntries entries + 1
  | .held _ => 1
def uptoBulkAll {H : Type} : List (DataW H) → Nat
  | [] => 0
  | d :: r => uptoBulk d + uptoBulkAll r
def uptoBulkEntries {H : Type} : List (Lit × DataW H) → Nat
  | [] => 0
  | x :: r => uptoBulkEntry x + uptoBulkEntries r
def uptoBulkEntry {H : Type} : Lit × DataW H → Nat
  | (.string bytes, d) => bytes.length + uptoBulk d + 1
  | (_, d) => uptoBulk d + 1
 end
def uptoSmall : (H : Type) → List (DataW H) → Bool := fun _ ds => decide (uptoBulkAll ds ≤ 1048576)
def OpenSpec.upto (s : _root_.Go.ChangeSpec) : _root_.Go.OpenSpec := { _root_.Go.OpenSpec.ofChange s with cond := some uptoSmall }

/-- 'laws.FnVisits', WHERE WHAT IT READS IS OF BULK AT MOST 1048576: true; the input reads as it did. -/
def fnVisitsUptoRow : OpenClaim := { program := "ytagnhfalmefbhaa", sum := "05962c2f149eb9a543b08e3df36209a00c7703c691b867a83b9fdd7b0e7d30f4", func := "loop.example/g03002/laws.FnVisits", spec := "fnVisits", unfollowed := true, recurses := true, plainKeys := false, apart := false, narrowed := true }
def FnVisitsUptoSaid : Prop := fnVisitsUptoRow.holds Try.pinned (OpenSpec.upto fnVisitsSpec)

/-- 'laws.FnExactIsVisit', WHERE WHAT IT READS IS OF BULK AT MOST 1048576: true; the input reads as it did. -/
def fnExactIsVisitUptoRow : OpenClaim := { program := "ytagnhfalmefbhaa", sum := "05962c2f149eb9a543b08e3df36209a00c7703c691b867a83b9fdd7b0e7d30f4", func := "loop.example/g03002/laws.FnExactIsVisit", spec := "fnExactIsVisit", unfollowed := true, recurses := true, plainKeys := false, apart := false, narrowed := true }
def FnExactIsVisitUptoSaid : Prop := fnExactIsVisitUptoRow.holds Try.pinned (OpenSpec.upto fnExactIsVisitSpec)

/-- 'laws.FnExactValueOfResource', WHERE WHAT IT READS IS OF BULK AT MOST 1048576: true; the input reads as it did. -/
def fnExactValueOfResourceUptoRow : OpenClaim := { program := "ytagnhfalmefbhaa", sum := "05962c2f149eb9a543b08e3df36209a00c7703c691b867a83b9fdd7b0e7d30f4", func := "loop.example/g03002/laws.FnExactValueOfResource", spec := "fnExactValueOfResource", unfollowed := true, recurses := true, plainKeys := false, apart := false, narrowed := true }
def FnExactValueOfResourceUptoSaid : Prop := fnExactValueOfResourceUptoRow.holds Try.pinned (OpenSpec.upto fnExactValueOfResourceSpec)

/-- 'laws.FnExactLiveValue', WHERE WHAT IT READS IS OF BULK AT MOST 1048576: true; the input reads as it did. -/
def fnExactLiveValueUptoRow : OpenClaim := { program := "ytagnhfalmefbhaa", sum := "05962c2f149eb9a543b08e3df36209a00c7703c691b867a83b9fdd7b0e7d30f4", func := "loop.example/g03002/laws.FnExactLiveValue", spec := "fnExactLiveValue", unfollowed := true, recurses := true, plainKeys := false, apart := false, narrowed := true }
def FnExactLiveValueUptoSaid : Prop := fnExactLiveValueUptoRow.holds Try.pinned (OpenSpec.upto fnExactLiveValueSpec)

/-- 'laws.FnExactAddressesFrom', WHERE WHAT IT READS IS OF BULK AT MOST 1048576: true; the input reads as it did. -/
def fnExactAddressesFromUptoRow : OpenClaim := { program := "ytagnhfalmefbhaa", sum := "05962c2f149eb9a543b08e3df36209a00c7703c691b867a83b9fdd7b0e7d30f4", func := "loop.example/g03002/laws.FnExactAddressesFrom", spec := "fnExactAddressesFrom", unfollowed := true, recurses := true, plainKeys := false, apart := false, narrowed := true }
def FnExactAddressesFromUptoSaid : Prop := fnExactAddressesFromUptoRow.holds Try.pinned (OpenSpec.upto fnExactAddressesFromSpec)

end Rows
end Go.Proofs.Ytagnhfalmefbhaa
