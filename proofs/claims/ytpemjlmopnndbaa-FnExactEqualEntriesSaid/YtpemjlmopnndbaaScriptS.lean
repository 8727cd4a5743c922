/-
  Scripts: the model. Whether a step, a script is valid; names; which ask; how many.
  Conditions: the steps lie in memory, with 2^20 numbers at most.
-/
import Derived.Test.YtpemjlmopnndbaaScriptMath
import Derived.Test.YtpemjlmopnndbaaRange
import Derived.Below
import Derived.WalkKit
namespace Go.Proofs.Ytpemjlmopnndbaa.Scripts
open Go Go.RowKit Go.Proofs.Ytpemjlmopnndbaa.Mem Go.Proofs.Ytpemjlmopnndbaa.Gen Go.Proofs.Ytpemjlmopnndbaa.Range

theorem l1_is (x lo hi : Int) (w : World) :
    Calls Try.prog 13 #[.int .i64 x, .int .i64 lo, .int .i64 hi] w fun e w' => e = .returned (.bool (inR lo hi x)) ∧ w = w' := by
  by_cases h : lo ≤ x ∧ x ≤ hi
  · rw [inR_yes h.1 h.2]; exact l1_yes x lo hi w h.1 h.2
  · rw [inR_no (by omega)]; exact l1_no x lo hi w (by omega)

-- KINDS
set_option maxRecDepth 100000 in
theorem asks_spec (k : Int) (w : World) :
    Calls Try.prog 12 #[.int .i64 k] w fun e w' => e = .returned (.bool (asksB k)) ∧ w = w' := by
  go_enter Try.func12, Try.ntmps12
  go_wp2_with (go_at_call 13; refine (l1_is k 1 4 _).mono ?_; rintro e w1 ⟨rfl, rfl⟩)
  go_ret
  exact ⟨rfl, rfl⟩

end Go.Proofs.Ytpemjlmopnndbaa.Scripts
