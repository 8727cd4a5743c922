/-
  The draw of an odd number: at the limits of a kind.
  Conditions: the bytes lie below the cursor's block.
-/
import Derived.Test.YtpplinfjpbfaoaaDoorDraw
namespace Go.Proofs.YtpplinfjpbfaoaaDoor.Draw
open Go Go.RowKit

set_option maxRecDepth 100000 in
theorem odd_any (B p : Nat) (w : World) (hc : Cur 47 B p w) :
    Calls Tryd.prog 33 #[.pointer (some ⟨p, 0, none⟩)] w fun e w' => IsInt e ∧ Cur 47 B p w' ∧ Only p w w' := by
  go_enter Tryd.func33, Tryd.ntmps33
  go_wp2_with (go_at_call 26; refine (int_new B p [-1, 0, 1, 2, 255, 256, 65535, 2147483647, 2147483648, 4294967295, 4294967296, -2147483648, 9223372036854775807, -9223372036854775808] _ _ _ rfl _ _ rfl hc (by decide) (by decide)).mono ?_; rintro e w1 ⟨⟨z, hz, rfl⟩, hc1, ho1⟩)
  go_ret
  exact ⟨isInt_of hz (by decide), hc1, ho1⟩
end Go.Proofs.YtpplinfjpbfaoaaDoor.Draw
