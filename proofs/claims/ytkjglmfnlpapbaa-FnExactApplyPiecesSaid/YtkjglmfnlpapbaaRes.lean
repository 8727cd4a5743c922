/-
  Resources by value: a copy, the test for equality, the sizes, marks.
  Conditions: the body is a row in memory, of at most 2^45 numbers.
-/
import Derived.Test.YtkjglmfnlpapbaaInts
import Derived.Test.YtkjglmfnlpapbaaAdr
import Derived.Test.YtkjglmfnlpapbaaQuint
namespace Go.Proofs.Ytkjglmfnlpapbaa.Res
open Go Go.RowKit Go.Proofs.Ytkjglmfnlpapbaa.Mem Go.Proofs.Ytkjglmfnlpapbaa.Adr

theorem Quint.zone {T : TypeId} {b lo hi : Nat} {x0 x1 x2 x3 x4 : Value} {w w' : World} (h : Quint T b x0 x1 x2 x3 x4 w) (hz : Zone lo hi w w') (hd : b < lo ∨ hi ≤ b) : Quint T b x0 x1 x2 x3 x4 w' := (hz.block b h.lt hd).trans h

/-- What a copy hands back: a resource whose body is a row of the call's own. -/
def Copied (lo : Nat) (k h p q : Int) (n : Nat) (zs : List Int) (w : World) (e : Ending) (w' : World) : Prop :=
  ∃ a c, e = .returned (Value.agg #[Value.int IntKind.i64 (k), Value.slice (a) (n) (c), Value.int IntKind.i64 (h), Value.int IntKind.i64 (p), Value.int IntKind.i64 (q)]) ∧ Own .i64 lo w'.heap.size w' a n zs ∧ n ≤ c ∧ c ≤ maxLen ∧ Below lo w w'

/-- Memory's room, told by a resource's size. -/
theorem sz_ints (a : Option Addr) (n c : Nat) (left : Int) (w : World) (hn : (n : Int) ≤ 9223372036854775807) (hl : 0 ≤ left) (hl' : left ≤ 1048576) :
    Calls Try.prog 44 #[.slice a n c, .int .i64 left] w fun e w' => e = .returned (.int .i64 (if (n : Int) ≤ left then left - n else -1)) ∧ w' = w := by
  by_cases h : (n : Int) ≤ left
  · rw [if_pos h]
    have e1 : IntKind.wrap .i64 (left - n) = left - n := by rw [IntKind.wrap_i64]; omega
    have d : decide (left - (n : Int) < 0) = false := by simp; omega
    go_enter Try.func44, Try.ntmps44
    go_wp2
    go_ret
    exact ⟨rfl, rfl⟩
  · rw [if_neg h]
    have e1 : IntKind.wrap .i64 (left - n) = left - n := by rw [IntKind.wrap_i64]; omega
    have d : decide (left - (n : Int) < 0) = true := by simp; omega
    go_enter Try.func44, Try.ntmps44
    go_wp2
    go_ret
    exact ⟨rfl, rfl⟩

end Go.Proofs.Ytkjglmfnlpapbaa.Res

