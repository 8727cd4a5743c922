/-
  The draws of one number: some number of an int.
  Conditions: the bytes lie below the cursor's block.
-/
import Derived.Test.YtpplinfjpbfaoaaDoorDrawOnce
import Derived.Test.YtpplinfjpbfaoaaDoorDrawOdd
namespace Go.Proofs.YtpplinfjpbfaoaaDoor.Draw
open Go Go.RowKit

set_option maxRecDepth 100000 in
theorem num_any (B p : Nat) (w : World) (hc : Cur 47 B p w) :
    Calls Tryd.prog 18 #[.pointer (some ⟨p, 0, none⟩)] w fun e w' => IsNat 1000000000001 e ∧ Cur 47 B p w' ∧ Only p w w' := by
  go_enter Tryd.func18, Tryd.ntmps18
  go_wp2_with fail
  go_at_call 25
  refine (below_any B p _ _ hc (by omega) (by omega)).mono ?_
  rintro e w1 ⟨⟨x, hx, rfl⟩, hc1, ho1⟩
  have hx4 : x = 0 ∨ x = 1 ∨ x = 2 ∨ x = 3 := by have : x < 4 := hx; omega
  rcases hx4 with rfl | rfl | rfl | rfl
  · go_wp2_with (go_at_call 25; refine (below_any B p _ _ hc1 (by omega) (by omega)).mono ?_; rintro e w2 ⟨⟨y, hy, rfl⟩, hc2, ho2⟩)
    go_ret
    exact ⟨⟨y, by have : y < 2000 := hy; omega, rfl⟩, hc2, ho1.trans ho2⟩
  · go_wp2_with (go_at_call 26; refine (int_new B p [0, 1, 127, 128, 2147483646, 2147483647, 1000000000000] _ _ _ rfl _ _ rfl hc1 (by decide) (by decide)).mono ?_; rintro e w2 ⟨⟨y, hy, rfl⟩, hc2, ho2⟩)
    go_ret
    exact ⟨isNat_of hy (by decide), hc2, ho1.trans ho2⟩
  · go_wp2_with fail
    go_at_call 25
    refine (below_any B p _ _ hc1 (by omega) (by omega)).mono ?_
    rintro e w2 ⟨⟨y, hy, rfl⟩, hc2, ho2⟩
    go_wp2_with fail
    go_at_call 25
    refine (below_any B p _ _ hc2 (by omega) (by omega)).mono ?_
    rintro e w3 ⟨⟨z, hz, rfl⟩, hc3, ho3⟩
    obtain ⟨hb0, hb1⟩ := prod_small y z hy hz
    go_wp2
    go_ret
    exact ⟨⟨y * z, by omega, by simp⟩, hc3, (ho1.trans ho2).trans ho3⟩
  · go_wp2_with (go_at_call 25; refine (below_any B p _ _ hc1 (by omega) (by omega)).mono ?_; rintro e w2 ⟨⟨y, hy, rfl⟩, hc2, ho2⟩)
    go_ret
    exact ⟨⟨y, by have : y < 20 := hy; omega, rfl⟩, hc2, ho1.trans ho2⟩

set_option maxRecDepth 100000 in
theorem raw_any (B p : Nat) (w : World) (hc : Cur 47 B p w) :
    Calls Tryd.prog 28 #[.pointer (some ⟨p, 0, none⟩)] w fun e w' => IsInt e ∧ Cur 47 B p w' ∧ Only p w w' := by
  go_enter Tryd.func28, Tryd.ntmps28
  go_wp2_with fail
  go_at_call 15
  refine (once_any B p _ _ hc (by omega) (by omega)).mono ?_
  rintro e w1 ⟨⟨x, rfl⟩, hc1, ho1⟩
  cases x
  · go_wp2_with (go_at_call 26; refine (int_new B p [-1, 1000000000000, 1000000000001] _ _ _ rfl _ _ rfl hc1 (by decide) (by decide)).mono ?_; rintro e w2 ⟨⟨y, hy, rfl⟩, hc2, ho2⟩)
    go_ret
    exact ⟨isInt_of hy (by decide), hc2, ho1.trans ho2⟩
  · go_wp2_with (go_at_call 33; refine (odd_any B p _ hc1).mono ?_; rintro e w2 ⟨⟨y, hy0, hy1, rfl⟩, hc2, ho2⟩)
    go_ret
    exact ⟨isInt_mk hy0 hy1, hc2, ho1.trans ho2⟩

set_option maxRecDepth 100000 in
theorem one_any (B p : Nat) (w : World) (hc : Cur 47 B p w) :
    Calls Tryd.prog 21 #[.pointer (some ⟨p, 0, none⟩)] w fun e w' => IsInt e ∧ Cur 47 B p w' ∧ Only p w w' := by
  go_enter Tryd.func21, Tryd.ntmps21
  go_wp2_with fail
  go_at_call 15
  refine (once_any B p _ _ hc (by omega) (by omega)).mono ?_
  rintro e w1 ⟨⟨x, rfl⟩, hc1, ho1⟩
  cases x
  · go_wp2_with (go_at_call 18; refine (num_any B p _ hc1).mono ?_; rintro e w2 ⟨⟨y, hy, rfl⟩, hc2, ho2⟩)
    go_ret
    exact ⟨isInt_mk (by omega) (by omega), hc2, ho1.trans ho2⟩
  · go_wp2_with (go_at_call 28; refine (raw_any B p _ hc1).mono ?_; rintro e w2 ⟨⟨y, hy0, hy1, rfl⟩, hc2, ho2⟩)
    go_ret
    exact ⟨isInt_mk hy0 hy1, hc2, ho1.trans ho2⟩

end Go.Proofs.YtpplinfjpbfaoaaDoor.Draw
