/-
  The law FnExactIsValidKey returns true, and leaves what was there as it was.
  Conditions: the arguments can be read.
-/
import Derived.Test.YtmiemfecbllhfaaKeyed
namespace Go.Proofs.Ytmiemfecbllhfaa.FnExactIsValidKeyW
open Go Go.RowKit Go.Proofs.Ytmiemfecbllhfaa.Mem

set_option maxHeartbeats 2000000 in
set_option maxRecDepth 100000 in
theorem walk_small (x0 : Int) (w : World) :
    Calls Try.prog 7 #[.int .i64 x0] w fun e w' => e = .returned (.bool true) ∧ Below w.heap.size w w' := by
  go_enter Try.func7, Try.ntmps7
  go_wp2_with fail
  go_at_call 30
  refine (Hsh.valid_spec x0 _).mono ?_
  rintro e w1 ⟨rfl, rfl⟩
  go_wp2_with fail
  go_at_call 24
  refine (Hsh.valid_impl x0 _).mono ?_
  rintro e w2 ⟨rfl, rfl⟩
  go_wp2
  go_ret
  exact ⟨rfl, Below.refl _ _⟩

set_option maxRecDepth 100000 in
theorem law_walk (x0 : Int) (w : World) :
    Calls Try.prog 7 #[.int .i64 x0] w fun e w' => e = .returned (.bool true) ∧ Below w.heap.size w w' := by
  exact walk_small x0 w   
end Go.Proofs.Ytmiemfecbllhfaa.FnExactIsValidKeyW
