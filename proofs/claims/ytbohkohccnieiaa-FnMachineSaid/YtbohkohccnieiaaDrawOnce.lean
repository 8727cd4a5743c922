/-
  The draw of a truth value: once in n.
  Conditions: the bytes lie below the cursor's block.
-/
import Derived.Test.YtbohkohccnieiaaDraw
namespace Go.Proofs.Ytbohkohccnieiaa.Draw
open Go Go.RowKit

set_option maxRecDepth 100000 in
theorem once_any (B p : Nat) (n : Int) (w : World) (hc : Cur 89 B p w) (h0 : 0 < n) (h1 : n ≤ 9223372036854775807) :
    Calls Try.prog 93 #[.pointer (some ⟨p, 0, none⟩), .int .i64 n] w fun e w' => IsBool e ∧ Cur 89 B p w' ∧ Only p w w' := by
  go_enter Try.func93, Try.ntmps93
  go_wp2_with (go_at_call 71; refine (below_any B p n _ hc h0 h1).mono ?_; rintro e w1 ⟨⟨x, hx, rfl⟩, hc1, ho1⟩)
  go_ret
  exact ⟨⟨_, rfl⟩, hc1, ho1⟩
end Go.Proofs.Ytbohkohccnieiaa.Draw
