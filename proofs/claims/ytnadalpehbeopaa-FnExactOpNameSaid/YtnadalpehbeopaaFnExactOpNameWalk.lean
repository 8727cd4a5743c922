/-
  The law FnExactOpName returns true, and leaves what was there as it was.
  Conditions: none.
-/
import Derived.Test.YtnadalpehbeopaaNames
import Derived.Test.YtnadalpehbeopaaScriptS
namespace Go.Proofs.Ytnadalpehbeopaa.FnExactOpNameW
open Go Go.RowKit Go.Proofs.Ytnadalpehbeopaa.Scripts

set_option maxHeartbeats 1000000 in
set_option maxRecDepth 100000 in
theorem law_walk (k : Int) (w : World) :
    Calls Try.prog 5 #[.int .i64 k] w fun e w' => e = .returned (.bool true) ∧ Below w.heap.size w w' := by
  have hS := fun W => name_spec k W
  have hI := fun W => name_impl k W
  obtain ⟨s, hs⟩ : ∃ s, nameB k = s := ⟨_, rfl⟩
  rw [hs] at hS hI
  clear hs
  go_enter Try.func5, Try.ntmps5
  go_wp2_with fail
  go_at_call 21
  refine (hS _).mono ?_
  rintro e w1 ⟨rfl, hb1⟩
  go_wp2_with fail
  go_at_call 13
  refine (hI _).mono ?_
  rintro e w2 ⟨rfl, hb2⟩
  go_wp2
  go_ret
  exact ⟨rfl, hb1.trans (hb2.mono hb1.size)⟩
end Go.Proofs.Ytnadalpehbeopaa.FnExactOpNameW
