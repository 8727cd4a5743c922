/-
  The law FnExactAsks returns true, and leaves what was there as it was.
  Conditions: none.
-/
import Derived.Test.YtnadalpehbeopaaScriptI
import Derived.Test.YtnadalpehbeopaaScriptS
namespace Go.Proofs.Ytnadalpehbeopaa.FnExactAsksW
open Go Go.RowKit Go.Proofs.Ytnadalpehbeopaa.Scripts

set_option maxRecDepth 100000 in
theorem law_walk (k : Int) (w : World) :
    Calls Try.prog 6 #[.int .i64 k] w fun e w' => e = .returned (.bool true) ∧ Below w.heap.size w w' := by
  have hS := fun W => asks_spec k W
  have hI := fun W => asks_impl k W
  obtain ⟨s, hs⟩ : ∃ s, asksB k = s := ⟨_, rfl⟩
  rw [hs] at hS hI
  clear hs
  go_enter Try.func6, Try.ntmps6
  go_wp2_with fail
  go_at_call 22
  refine (hS _).mono ?_
  rintro e w1 ⟨rfl, rfl⟩
  go_wp2_with fail
  go_at_call 11
  refine (hI _).mono ?_
  rintro e w2 ⟨rfl, rfl⟩
  cases s
  all_goals
    go_wp2
    go_ret
    exact ⟨rfl, Below.refl _ _⟩
end Go.Proofs.Ytnadalpehbeopaa.FnExactAsksW
