/-
  The law FnExactRootOf returns true, and leaves what was there as it was.
  Conditions: the arguments can be read.
-/
import Derived.Test.YtggfpjcfjcoaiaaRootS
namespace Go.Proofs.Ytggfpjcfjcoaiaa.FnExactRootOfW
open Go Go.RowKit Go.Proofs.Ytggfpjcfjcoaiaa.Mem

set_option maxHeartbeats 2000000 in
set_option maxRecDepth 100000 in
theorem walk_small (a0 : Option Addr) (n0 c0 : Nat) (z0 : List Int) (w : World) (h0 : Row .i64 0 w.heap.size w a0 n0 z0) (k0 : n0 ≤ 1048576) :
    Calls Try.prog 5 #[.slice a0 n0 c0] w fun e w' => e = .returned (.bool true) ∧ Below w.heap.size w w' := by
  go_enter Try.func5, Try.ntmps5
  go_wp2_with fail
  go_at_call 21
  refine (Nts.to_any 0 w.heap.size _ a0 n0 _ z0 h0 (Nat.le_refl _) (by omega)).mono ?_
  rintro e w1 ⟨ra1, rc1, rfl, ho1, hc1, hd1, hb1⟩
  unfold maxLen at hd1
  have hs1 := hb1.size
  have f1_arg0 := h0.below hb1
  have hB1 := hb1
  go_wp2_with fail
  go_at_call 20
  refine (Tre.root_spec w.heap.size w1.heap.size _ _ _ _ _ ho1.row (by omega) (by unfold maxLen; omega) (by omega)).mono ?_
  rintro e w2 ⟨rfl, hb2⟩
  have hs2 := hb2.size
  have f2_arg0 := f1_arg0.below hb2
  have f2_t0 := ho1.below hb2
  have hB2 := hB1.trans (hb2.mono hB1.size)
  go_wp2_with fail
  go_at_call 21
  refine (Nts.to_any 0 w.heap.size _ a0 n0 _ z0 f2_arg0 hB2.size (by omega)).mono ?_
  rintro e w3 ⟨ra3, rc3, rfl, ho3, hc3, hd3, hb3⟩
  unfold maxLen at hd3
  have hs3 := hb3.size
  have f3_arg0 := f2_arg0.below hb3
  have hB3 := hB2.trans (hb3.mono hB2.size)
  go_wp2_with fail
  go_at_call 11
  refine (Tre.root_impl w2.heap.size w3.heap.size _ _ _ _ _ ho3.row (by omega) (by unfold maxLen; omega) (by omega)).mono ?_
  rintro e w4 ⟨rfl, hb4⟩
  have hs4 := hb4.size
  have f4_arg0 := f3_arg0.below hb4
  have f4_x0 := ho3.below hb4
  have hB4 := hB3.trans (hb4.mono hB3.size)
  go_wp2_with fail
  go_at_call 21
  refine (Nts.to_any 0 w.heap.size _ a0 n0 _ z0 f4_arg0 hB4.size (by omega)).mono ?_
  rintro e w5 ⟨ra5, rc5, rfl, ho5, hc5, hd5, hb5⟩
  unfold maxLen at hd5
  have hs5 := hb5.size
  have f5_arg0 := f4_arg0.below hb5
  have f5_x0 := f4_x0.below hb5
  have hB5 := hB4.trans (hb5.mono hB4.size)
  go_wp2_with fail
  go_at_call 22
  refine ((Nts.eq_same _ _ _ _ _ ra3 ra5 n0 _ _ _ f5_x0.row ho5.row (by omega))).mono ?_
  rintro e w6 ⟨rfl, m6, hw6⟩
  have hb6 : Below w5.heap.size w5 w6 := by rw [hw6]; exact below_drewN (Below.refl _ _) _
  clear hw6
  have hs6 := hb6.size
  have f6_arg0 := f5_arg0.below hb6
  have f6_x0 := f5_x0.below hb6
  have f6_y0 := ho5.below hb6
  have hB6 := hB5.trans (hb6.mono hB5.size)
  go_wp2
  go_ret
  exact ⟨rfl, hB6⟩

set_option maxRecDepth 100000 in
theorem law_walk (a0 : Option Addr) (n0 c0 : Nat) (z0 : List Int) (w : World) (h0 : Row .i64 0 w.heap.size w a0 n0 z0) :
    Calls Try.prog 5 #[.slice a0 n0 c0] w fun e w' => e = .returned (.bool true) ∧ Below w.heap.size w w' := by
  by_cases k0 : n0 ≤ 1048576
  rotate_left
  · have k0' : (1048576 : Int) < (n0 : Nat) := by omega
    go_enter Try.func5, Try.ntmps5
    go_wp2
    go_ret
    exact ⟨rfl, Below.refl _ _⟩
  exact walk_small a0 n0 c0 z0 w h0  k0
end Go.Proofs.Ytggfpjcfjcoaiaa.FnExactRootOfW
