/-
  The exact laws' helpers at a slice of integers, in the words for data of any depth.
  Conditions: the integers lie in memory.
-/
import Derived.Test.YtpemjlmopnndbaaDoorDatFill
import Derived.Test.YtpemjlmopnndbaaDoorInts
namespace Go.Proofs.YtpemjlmopnndbaaDoor.Gen
open Go Go.RowKit Go.Proofs.YtpemjlmopnndbaaDoor.Mem

section
variable {lo hi : Nat} {w : World} {zs : List Int} {v : Value}
end
/-- What is left of a count. -/
def left (l : Int) (r : Nat) : Int := if (r : Int) ≤ l then l - r else -1
theorem left_cases (l : Int) (r : Nat) (_h : 0 ≤ l) : (left l r = -1 ∧ l < r) ∨ (left l r = l - r ∧ 0 ≤ left l r) := by
  unfold left
  split <;> omega
theorem left_none {l : Int} {r : Nat} (h : l < r) : left l r = -1 := by unfold left; rw [if_neg (by omega)]
theorem left_some {l : Int} {r : Nat} (h : (r : Int) ≤ l) : left l r = l - r := by unfold left; rw [if_pos h]
end Go.Proofs.YtpemjlmopnndbaaDoor.Gen
