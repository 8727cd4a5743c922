/-
  No cell of these rows narrows 'for every input' (looked for: loops, veiled, ifaces, maps, wideKeys, modest, calm, conditions, laid).
  DERIVED. THE GIVEN ROWS OF THIS SEAT. 6 by the template 'for every input the law returns true; each argument reads behind the call as it read before'; 0 by the template 'total and deterministic' (their statements: YtldpgkbemgpacaaTotals.lean).
  GIVEN WITH THE SEED: the statements are not yours to turn. If you find one false, say at which input.
  Laid BY PROGRAM, IN A SANDBOX (cutbox-rows.mjs): the forced cells as the released guide's own fill.sh prints them over the translation c35d9b7cfd002ce9… (all of the seat's roots in one cut). By AI agents, Wed Nov 11 2026. No macro, syntax, notation, axiom, sorry.
-/
import Derived.Test.YtldpgkbemgpacaaChecked
import GoSem.Claim
import GoSem.ClaimJoined
import GoSem.ClaimMapViews
import Derived.JoinedTies
import Derived.KernelRfl
namespace Go.Proofs.Ytldpgkbemgpacaa
/- THE CELL 'sum', in the pinned program and in every row, IS THE sha256 OF THE DUMP (.gsa) THAT YtldpgkbemgpacaaProg.lean LOADS. Nothing in Lean hashes anything: it is a label: what it is worth is what the hold of that sum in a sandbox is worth. -/
noncomputable def Try.pinned : Pinned := { name := "ytldpgkbemgpacaa", sum := "c35d9b7cfd002ce9fbb8ea018aab17e7a4c11158ad69fef6b7a0b5f5f7de0f3d", checked := Try.checked }
namespace Rows
def none {H : Type} : Left H := { results := [], args := [] }

/-- 'laws.FnSites': WHATEVER THE INPUT: true; the input reads as it did. -/
def fnSitesSpec : ChangeSpec := { name := "fnSites", fn := fun _ => fun
  | [d] => { results := [.lit (.bool true)], args := [d] }
  | _ => none }
def fnSitesRow : OpenClaim := { program := "ytldpgkbemgpacaa", sum := "c35d9b7cfd002ce9fbb8ea018aab17e7a4c11158ad69fef6b7a0b5f5f7de0f3d", func := "loop.example/g03002/laws.FnSites", spec := "fnSites", unfollowed := true, recurses := true, plainKeys := false, apart := false }
def FnSitesSaid : Prop := fnSitesRow.holds Try.pinned (OpenSpec.ofChange fnSitesSpec)

/-- ITS FALSE NEIGHBOUR: 'it returns false'. Refute it at one input. -/
def fnSitesWrong : ChangeSpec := { name := "fnSites", fn := fun _ => fun
  | [d] => { results := [.lit (.bool false)], args := [d] }
  | _ => none }
def FnSitesWrongFalsely : Prop := fnSitesRow.holds Try.pinned (OpenSpec.ofChange fnSitesWrong)

/-- 'laws.FnExactIsSite': WHATEVER THE INPUT: true; the input reads as it did. -/
def fnExactIsSiteSpec : ChangeSpec := { name := "fnExactIsSite", fn := fun _ => fun
  | [d] => { results := [.lit (.bool true)], args := [d] }
  | _ => none }
def fnExactIsSiteRow : OpenClaim := { program := "ytldpgkbemgpacaa", sum := "c35d9b7cfd002ce9fbb8ea018aab17e7a4c11158ad69fef6b7a0b5f5f7de0f3d", func := "loop.example/g03002/laws.FnExactIsSite", spec := "fnExactIsSite", unfollowed := true, recurses := true, plainKeys := false, apart := false }
def FnExactIsSiteSaid : Prop := fnExactIsSiteRow.holds Try.pinned (OpenSpec.ofChange fnExactIsSiteSpec)

/-- ITS FALSE NEIGHBOUR: 'it returns false'. Refute it at one input. -/
def fnExactIsSiteWrong : ChangeSpec := { name := "fnExactIsSite", fn := fun _ => fun
  | [d] => { results := [.lit (.bool false)], args := [d] }
  | _ => none }
def FnExactIsSiteWrongFalsely : Prop := fnExactIsSiteRow.holds Try.pinned (OpenSpec.ofChange fnExactIsSiteWrong)

/-- 'laws.FnExactAnswerAt': WHATEVER THE INPUT: true; the input reads as it did. -/
def fnExactAnswerAtSpec : ChangeSpec := { name := "fnExactAnswerAt", fn := fun _ => fun
  | [d1, d2, d3] => { results := [.lit (.bool true)], args := [d1, d2, d3] }
  | _ => none }
def fnExactAnswerAtRow : OpenClaim := { program := "ytldpgkbemgpacaa", sum := "c35d9b7cfd002ce9fbb8ea018aab17e7a4c11158ad69fef6b7a0b5f5f7de0f3d", func := "loop.example/g03002/laws.FnExactAnswerAt", spec := "fnExactAnswerAt", unfollowed := true, recurses := true, plainKeys := false, apart := false }
def FnExactAnswerAtSaid : Prop := fnExactAnswerAtRow.holds Try.pinned (OpenSpec.ofChange fnExactAnswerAtSpec)

/-- ITS FALSE NEIGHBOUR: 'it returns false'. Refute it at one input. -/
def fnExactAnswerAtWrong : ChangeSpec := { name := "fnExactAnswerAt", fn := fun _ => fun
  | [d1, d2, d3] => { results := [.lit (.bool false)], args := [d1, d2, d3] }
  | _ => none }
def FnExactAnswerAtWrongFalsely : Prop := fnExactAnswerAtRow.holds Try.pinned (OpenSpec.ofChange fnExactAnswerAtWrong)

/-- 'laws.FnExactChangesOf': WHATEVER THE INPUT: true; the input reads as it did. -/
def fnExactChangesOfSpec : ChangeSpec := { name := "fnExactChangesOf", fn := fun _ => fun
  | [d1, d2] => { results := [.lit (.bool true)], args := [d1, d2] }
  | _ => none }
def fnExactChangesOfRow : OpenClaim := { program := "ytldpgkbemgpacaa", sum := "c35d9b7cfd002ce9fbb8ea018aab17e7a4c11158ad69fef6b7a0b5f5f7de0f3d", func := "loop.example/g03002/laws.FnExactChangesOf", spec := "fnExactChangesOf", recurses := true, plainKeys := false, apart := false }
def FnExactChangesOfSaid : Prop := fnExactChangesOfRow.holds Try.pinned (OpenSpec.ofChange fnExactChangesOfSpec)

/-- ITS FALSE NEIGHBOUR: 'it returns false'. Refute it at one input. -/
def fnExactChangesOfWrong : ChangeSpec := { name := "fnExactChangesOf", fn := fun _ => fun
  | [d1, d2] => { results := [.lit (.bool false)], args := [d1, d2] }
  | _ => none }
def FnExactChangesOfWrongFalsely : Prop := fnExactChangesOfRow.holds Try.pinned (OpenSpec.ofChange fnExactChangesOfWrong)

/-- 'laws.FnExactFollowAt': WHATEVER THE INPUT: true; the input reads as it did. -/
def fnExactFollowAtSpec : ChangeSpec := { name := "fnExactFollowAt", fn := fun _ => fun
  | [d1, d2, d3] => { results := [.lit (.bool true)], args := [d1, d2, d3] }
  | _ => none }
def fnExactFollowAtRow : OpenClaim := { program := "ytldpgkbemgpacaa", sum := "c35d9b7cfd002ce9fbb8ea018aab17e7a4c11158ad69fef6b7a0b5f5f7de0f3d", func := "loop.example/g03002/laws.FnExactFollowAt", spec := "fnExactFollowAt", unfollowed := true, recurses := true, plainKeys := false, apart := false }
def FnExactFollowAtSaid : Prop := fnExactFollowAtRow.holds Try.pinned (OpenSpec.ofChange fnExactFollowAtSpec)

/-- ITS FALSE NEIGHBOUR: 'it returns false'. Refute it at one input. -/
def fnExactFollowAtWrong : ChangeSpec := { name := "fnExactFollowAt", fn := fun _ => fun
  | [d1, d2, d3] => { results := [.lit (.bool false)], args := [d1, d2, d3] }
  | _ => none }
def FnExactFollowAtWrongFalsely : Prop := fnExactFollowAtRow.holds Try.pinned (OpenSpec.ofChange fnExactFollowAtWrong)

/-- 'laws.FnExactIsSteady': WHATEVER THE INPUT: true; the input reads as it did. -/
def fnExactIsSteadySpec : ChangeSpec := { name := "fnExactIsSteady", fn := fun _ => fun
  | [d1, d2, d3, d4] => { results := [.lit (.bool true)], args := [d1, d2, d3, d4] }
  | _ => none }
def fnExactIsSteadyRow : OpenClaim := { program := "ytldpgkbemgpacaa", sum := "c35d9b7cfd002ce9fbb8ea018aab17e7a4c11158ad69fef6b7a0b5f5f7de0f3d", func := "loop.example/g03002/laws.FnExactIsSteady", spec := "fnExactIsSteady", unfollowed := true, recurses := true, plainKeys := false, apart := false }
def FnExactIsSteadySaid : Prop := fnExactIsSteadyRow.holds Try.pinned (OpenSpec.ofChange fnExactIsSteadySpec)

/-- ITS FALSE NEIGHBOUR: 'it returns false'. Refute it at one input. -/
def fnExactIsSteadyWrong : ChangeSpec := { name := "fnExactIsSteady", fn := fun _ => fun
  | [d1, d2, d3, d4] => { results := [.lit (.bool false)], args := [d1, d2, d3, d4] }
  | _ => none }
def FnExactIsSteadyWrongFalsely : Prop := fnExactIsSteadyRow.holds Try.pinned (OpenSpec.ofChange fnExactIsSteadyWrong)

/- THE SECOND FORM. 'bulk': how many values and letters a reading holds, each counted each time it is reached (what is shared counts as often as it is met; a slice's spare places count too). A statement '..UptoSaid' is the law's where the arguments, and the package variables that the reading takes, are together of bulk at most 1048576: NARROWER than '..Said'. Prove '..Said' where nothing that the law and all that it calls make is longer than what came in: it says more and counts as full. Else prove '..UptoSaid'. A law counts once. -/
mutual
def uptoBulk {H : Type} : DataW H → Nat
  | .lit (.string bytes) => bytes.length + 1
  | .lit _ => 1
  | .nil => 1
  | .ptr d => uptoBulk d + 1
  | .slice elems spare => uptoBulkAll elems + uptoBulkAll spare + 1
  | .agg parts => uptoBulkAll parts + 1
  | .iface _ d => uptoBulk d + 1
  | .map entries => uptoBulkEntries entries + 1
  | .held _ => 1
def uptoBulkAll {H : Type} : List (DataW H) → Nat
  | [] => 0
  | d :: r => uptoBulk d + uptoBulkAll r
def uptoBulkEntries {H : Type} : List (Lit × DataW H) → Nat
  | [] => 0
  | x :: r => uptoBulkEntry x + uptoBulkEntries r
def uptoBulkEntry {H : Type} : Lit × DataW H → Nat
  | (.string bytes, d) => bytes.length + uptoBulk d + 1
  | (_, d) => uptoBulk d + 1
 end
def uptoSmall : (H : Type) → List (DataW H) → Bool := fun _ ds => decide (uptoBulkAll ds ≤ 1048576)
def OpenSpec.upto (s : _root_.Go.ChangeSpec) : _root_.Go.OpenSpec := { _root_.Go.OpenSpec.ofChange s with cond := some uptoSmall }

/-- 'laws.FnSites', WHERE WHAT IT READS IS OF BULK AT MOST 1048576: true; the input reads as it did. -/
def fnSitesUptoRow : OpenClaim := { program := "ytldpgkbemgpacaa", sum := "c35d9b7cfd002ce9fbb8ea018aab17e7a4c11158ad69fef6b7a0b5f5f7de0f3d", func := "loop.example/g03002/laws.FnSites", spec := "fnSites", unfollowed := true, recurses := true, plainKeys := false, apart := false, narrowed := true }
def FnSitesUptoSaid : Prop := fnSitesUptoRow.holds Try.pinned (OpenSpec.upto fnSitesSpec)

/-- 'laws.FnExactIsSite', WHERE WHAT IT READS IS OF BULK AT MOST 1048576: true; the input reads as it did. -/
def fnExactIsSiteUptoRow : OpenClaim := { program := "ytldpgkbemgpacaa", sum := "c35d9b7cfd002ce9fbb8ea018aab17e7a4c11158ad69fef6b7a0b5f5f7de0f3d", func := "loop.example/g03002/laws.FnExactIsSite", spec := "fnExactIsSite", unfollowed := true, recurses := true, plainKeys := false, apart := false, narrowed := true }
def FnExactIsSiteUptoSaid : Prop := fnExactIsSiteUptoRow.holds Try.pinned (OpenSpec.upto fnExactIsSiteSpec)

/-- 'laws.FnExactAnswerAt', WHERE WHAT IT READS IS OF BULK AT MOST 1048576: true; the input reads as it did. -/
def fnExactAnswerAtUptoRow : OpenClaim := { program := "ytldpgkbemgpacaa", sum := "c35d9b7cfd002ce9fbb8ea018aab17e7a4c11158ad69fef6b7a0b5f5f7de0f3d", func := "loop.example/g03002/laws.FnExactAnswerAt", spec := "fnExactAnswerAt", unfollowed := true, recurses := true, plainKeys := false, apart := false, narrowed := true }
def FnExactAnswerAtUptoSaid : Prop := fnExactAnswerAtUptoRow.holds Try.pinned (OpenSpec.upto fnExactAnswerAtSpec)

/-- 'laws.FnExactChangesOf', WHERE WHAT IT READS IS OF BULK AT MOST 1048576: true; the input reads as it did. -/
def fnExactChangesOfUptoRow : OpenClaim := { program := "ytldpgkbemgpacaa", sum := "c35d9b7cfd002ce9fbb8ea018aab17e7a4c11158ad69fef6b7a0b5f5f7de0f3d", func := "loop.example/g03002/laws.FnExactChangesOf", spec := "fnExactChangesOf", recurses := true, plainKeys := false, apart := false, narrowed := true }
def FnExactChangesOfUptoSaid : Prop := fnExactChangesOfUptoRow.holds Try.pinned (OpenSpec.upto fnExactChangesOfSpec)

/-- 'laws.FnExactFollowAt', WHERE WHAT IT READS IS OF BULK AT MOST 1048576: true; the input reads as it did. -/
def fnExactFollowAtUptoRow : OpenClaim := { program := "ytldpgkbemgpacaa", sum := "c35d9b7cfd002ce9fbb8ea018aab17e7a4c11158ad69fef6b7a0b5f5f7de0f3d", func := "loop.example/g03002/laws.FnExactFollowAt", spec := "fnExactFollowAt", unfollowed := true, recurses := true, plainKeys := false, apart := false, narrowed := true }
def FnExactFollowAtUptoSaid : Prop := fnExactFollowAtUptoRow.holds Try.pinned (OpenSpec.upto fnExactFollowAtSpec)

/-- 'laws.FnExactIsSteady', WHERE WHAT IT READS IS OF BULK AT MOST 1048576: true; the input reads as it did. -/
def fnExactIsSteadyUptoRow : OpenClaim := { program := "ytldpgkbemgpacaa", sum := "c35d9b7cfd002ce9fbb8ea018aab17e7a4c11158ad69fef6b7a0b5f5f7de0f3d", func := "loop.example/g03002/laws.FnExactIsSteady", spec := "fnExactIsSteady", unfollowed := true, recurses := true, plainKeys := false, apart := false, narrowed := true }
def FnExactIsSteadyUptoSaid : Prop := fnExactIsSteadyUptoRow.holds Try.pinned (OpenSpec.upto fnExactIsSteadySpec)

end Rows
end Go.Proofs.Ytldpgkbemgpacaa
