/-
  EqualBytes, of the program and of the model: whether two rows of bytes are the same list.
  Conditions: the rows lie in memory.
-/
import Derived.Test.YtplkkmjfglgecaaProg
import Derived.Test.YtplkkmjfglgecaaMem
import Derived.Lib.Strings
import Derived.WalkKit
import Derived.Outline
namespace Go.Proofs.Ytplkkmjfglgecaa.EqB
open Go Go.RowKit Go.Proofs.Ytplkkmjfglgecaa.Mem

theorem same_iff {xs ys : List Int} (hx : ∀ z ∈ xs, (Lit.int .u8 z).wf = true) (hy : ∀ z ∈ ys, (Lit.int .u8 z).wf = true) : decide (xs = ys) = ((strOfNums xs).toList == (strOfNums ys).toList) := by
  by_cases h : xs = ys
  · subst h; simp
  · rw [decide_eq_false h]
    symm
    rw [beq_eq_false_iff_ne]
    intro he
    rw [Lib.toList_data, Lib.toList_data] at he
    exact h (strOfNums_inj hx hy he)

set_option maxRecDepth 100000 in
theorem lib_any (l1 h1 l2 h2 : Nat) (w : World) (a b : Option Addr) (n m c d : Nat) (xs ys : List Int) (ha : Row .u8 l1 h1 w a n xs) (hb : Row .u8 l2 h2 w b m ys) :
    Calls Try.prog 54 #[.slice a n c, .slice b m d] w fun e w' => e = .returned (.bool (decide (xs = ys))) ∧ w = w' := by
  have c1 := ha.convert (P := Try.prog) c 22 5 9 Try.underlying22 Try.underlying5 Try.underlying9
  have c2 := hb.convert (P := Try.prog) d 22 5 9 Try.underlying22 Try.underlying5 Try.underlying9
  rw [same_iff ha.wf hb.wf]
  go_enter Try.func54, Try.ntmps54
  go_wp2
  go_ret
  exact ⟨rfl, rfl⟩

set_option maxRecDepth 100000 in
theorem impl_any (l1 h1 l2 h2 : Nat) (w : World) (a b : Option Addr) (n m c d : Nat) (xs ys : List Int) (ha : Row .u8 l1 h1 w a n xs) (hb : Row .u8 l2 h2 w b m ys) :
    Calls Try.prog 40 #[.slice a n c, .slice b m d] w fun e w' => e = .returned (.bool (decide (xs = ys))) ∧ w = w' := by
  go_enter Try.func40, Try.ntmps40
  go_wp2_with (go_at_call 54; refine (lib_any l1 h1 l2 h2 _ a b n m c d xs ys ha hb).mono ?_; rintro e w' ⟨rfl, rfl⟩)
  go_ret
  exact ⟨rfl, rfl⟩

set_option maxRecDepth 100000 in
theorem spec_any (l1 h1 l2 h2 : Nat) (w : World) (a b : Option Addr) (n m c d : Nat) (xs ys : List Int) (ha : Row .u8 l1 h1 w a n xs) (hb : Row .u8 l2 h2 w b m ys) :
    Calls Try.prog 39 #[.slice a n c, .slice b m d] w fun e w' => e = .returned (.bool (decide (xs = ys))) ∧ w = w' := by
  have c1 := ha.convert (P := Try.prog) c 22 5 9 Try.underlying22 Try.underlying5 Try.underlying9
  have c2 := hb.convert (P := Try.prog) d 22 5 9 Try.underlying22 Try.underlying5 Try.underlying9
  rw [same_iff ha.wf hb.wf]
  go_enter Try.func39, Try.ntmps39
  go_wp2
  go_ret
  exact ⟨rfl, rfl⟩
end Go.Proofs.Ytplkkmjfglgecaa.EqB
