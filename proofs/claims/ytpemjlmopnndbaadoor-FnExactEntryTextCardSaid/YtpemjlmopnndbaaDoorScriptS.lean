/-
  Scripts: the model. Whether a step, a script is valid; names; which ask; how many.
  Conditions: the steps lie in memory, with 2^20 numbers at most.
-/
import Derived.Test.YtpemjlmopnndbaaDoorScriptMath
import Derived.Test.YtpemjlmopnndbaaDoorRange
import Derived.Below
import Derived.WalkKit
namespace Go.Proofs.YtpemjlmopnndbaaDoor.Scripts
open Go Go.RowKit Go.Proofs.YtpemjlmopnndbaaDoor.Mem Go.Proofs.YtpemjlmopnndbaaDoor.Gen Go.Proofs.YtpemjlmopnndbaaDoor.Range

theorem l1_is (x lo hi : Int) (w : World) :
    Calls Tryd.prog 16 #[.int .i64 x, .int .i64 lo, .int .i64 hi] w fun e w' => e = .returned (.bool (inR lo hi x)) ∧ w = w' := by
  by_cases h : lo ≤ x ∧ x ≤ hi
  · rw [inR_yes h.1 h.2]; exact l1_yes x lo hi w h.1 h.2
  · rw [inR_no (by omega)]; exact l1_no x lo hi w (by omega)

-- KINDS
set_option maxHeartbeats 1600000 in
set_option maxRecDepth 100000 in
theorem name_spec (k : Int) (w : World) :
    Calls Tryd.prog 7 #[.int .i64 k] w fun e w' => e = .returned (.string (nameB k)) ∧ Below w.heap.size w w' := by
  by_cases hk : 1 ≤ k ∧ k ≤ 9
  rotate_left
  · rw [nameB_none (by omega)]
    go_enter Tryd.func7, Tryd.ntmps7
    go_wp2_with (go_at_call 16; refine (l1_no k 1 9 _ (by omega)).mono ?_; rintro e w1 ⟨rfl, rfl⟩)
    go_ret
    exact ⟨rfl, Below.refl _ _⟩
  rcases kinds k hk.1 hk.2
  all_goals
    go_enter Tryd.func7, Tryd.ntmps7
    go_wp2_with (go_at_call 16; refine (l1_yes _ 1 9 _ (by omega) (by omega)).mono ?_; rintro e w1 ⟨rfl, rfl⟩)
    go_ret
    exact ⟨rfl, (Below.refl _ _).alloc (Nat.le_refl _) _⟩
end Go.Proofs.YtpemjlmopnndbaaDoor.Scripts
