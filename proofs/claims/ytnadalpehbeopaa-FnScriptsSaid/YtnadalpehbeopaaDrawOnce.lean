/-
  The draw of a truth value: once in n.
  Conditions: the bytes lie below the cursor's block.
-/
import Derived.Test.YtnadalpehbeopaaDraw
namespace Go.Proofs.Ytnadalpehbeopaa.Draw
open Go Go.RowKit

set_option maxRecDepth 100000 in
theorem once_any (B p : Nat) (n : Int) (w : World) (hc : Cur 55 B p w) (h0 : 0 < n) (h1 : n ≤ 9223372036854775807) :
    Calls Try.prog 50 #[.pointer (some ⟨p, 0, none⟩), .int .i64 n] w fun e w' => IsBool e ∧ Cur 55 B p w' ∧ Only p w w' := by
  go_enter Try.func50, Try.ntmps50
  go_wp2_with (go_at_call 34; refine (below_any B p n _ hc h0 h1).mono ?_; rintro e w1 ⟨⟨x, hx, rfl⟩, hc1, ho1⟩)
  go_ret
  exact ⟨⟨_, rfl⟩, hc1, ho1⟩
end Go.Proofs.Ytnadalpehbeopaa.Draw
