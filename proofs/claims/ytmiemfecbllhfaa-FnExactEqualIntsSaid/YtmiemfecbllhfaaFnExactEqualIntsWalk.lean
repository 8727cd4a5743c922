/-
  The law FnExactEqualInts returns true, and leaves what was there as it was.
  Conditions: the arguments can be read.
-/
import Derived.Test.YtmiemfecbllhfaaEqI
namespace Go.Proofs.Ytmiemfecbllhfaa.FnExactEqualIntsW
open Go Go.RowKit Go.Proofs.Ytmiemfecbllhfaa.Mem

set_option maxHeartbeats 2000000 in
set_option maxRecDepth 100000 in
theorem walk_small (a0 : Option Addr) (n0 c0 : Nat) (z0 : List Int) (a1 : Option Addr) (n1 c1 : Nat) (z1 : List Int) (w : World) (h0 : Row .i64 0 w.heap.size w a0 n0 z0) (h1 : Row .i64 0 w.heap.size w a1 n1 z1) (k0 : n0 ≤ 1048576) (k1 : n1 ≤ 1048576) :
    Calls Try.prog 12 #[.slice a0 n0 c0, .slice a1 n1 c1] w fun e w' => e = .returned (.bool true) ∧ Below w.heap.size w w' := by
  go_enter Try.func12, Try.ntmps12
  go_wp2_with fail
  go_at_call 27
  refine (Nts.to_any 0 w.heap.size _ a0 n0 _ z0 h0 (Nat.le_refl _) (by omega)).mono ?_
  rintro e w1 ⟨ra1, rc1, rfl, ho1, hc1, hd1, hb1⟩
  unfold maxLen at hd1
  have hs1 := hb1.size
  have f1_arg0 := h0.below hb1
  have f1_arg1 := h1.below hb1
  have hB1 := hb1
  go_wp2_with fail
  go_at_call 27
  refine (Nts.to_any 0 w.heap.size _ a1 n1 _ z1 f1_arg1 hB1.size (by omega)).mono ?_
  rintro e w2 ⟨ra2, rc2, rfl, ho2, hc2, hd2, hb2⟩
  unfold maxLen at hd2
  have hs2 := hb2.size
  have f2_arg0 := f1_arg0.below hb2
  have f2_arg1 := f1_arg1.below hb2
  have f2_t0 := ho1.below hb2
  have hB2 := hB1.trans (hb2.mono hB1.size)
  go_wp2_with fail
  go_at_call 42
  refine (EqI.spec_below w.heap.size w1.heap.size w1.heap.size w2.heap.size _ _ _ _ _ _ _ _ _ f2_t0.row ho2.row (by omega) (by omega)).mono ?_
  rintro e w3 ⟨rfl, hb3⟩
  have hs3 := hb3.size
  have f3_arg0 := f2_arg0.below hb3
  have f3_arg1 := f2_arg1.below hb3
  have f3_t0 := f2_t0.below hb3
  have f3_t1 := ho2.below hb3
  have hB3 := hB2.trans (hb3.mono hB2.size)
  go_wp2_with fail
  go_at_call 27
  refine (Nts.to_any 0 w.heap.size _ a0 n0 _ z0 f3_arg0 hB3.size (by omega)).mono ?_
  rintro e w4 ⟨ra4, rc4, rfl, ho4, hc4, hd4, hb4⟩
  unfold maxLen at hd4
  have hs4 := hb4.size
  have f4_arg0 := f3_arg0.below hb4
  have f4_arg1 := f3_arg1.below hb4
  have hB4 := hB3.trans (hb4.mono hB3.size)
  go_wp2_with fail
  go_at_call 27
  refine (Nts.to_any 0 w.heap.size _ a1 n1 _ z1 f4_arg1 hB4.size (by omega)).mono ?_
  rintro e w5 ⟨ra5, rc5, rfl, ho5, hc5, hd5, hb5⟩
  unfold maxLen at hd5
  have hs5 := hb5.size
  have f5_arg0 := f4_arg0.below hb5
  have f5_arg1 := f4_arg1.below hb5
  have f5_x0 := ho4.below hb5
  have hB5 := hB4.trans (hb5.mono hB4.size)
  go_wp2_with fail
  go_at_call 43
  refine (EqI.impl_below w3.heap.size w4.heap.size w4.heap.size w5.heap.size _ _ _ _ _ _ _ _ _ f5_x0.row ho5.row (by omega) (by omega)).mono ?_
  rintro e w6 ⟨rfl, hb6⟩
  have hs6 := hb6.size
  have f6_arg0 := f5_arg0.below hb6
  have f6_arg1 := f5_arg1.below hb6
  have f6_x0 := f5_x0.below hb6
  have f6_x1 := ho5.below hb6
  have hB6 := hB5.trans (hb6.mono hB5.size)
  go_wp2_with fail
  go_at_call 27
  refine (Nts.to_any 0 w.heap.size _ a0 n0 _ z0 f6_arg0 hB6.size (by omega)).mono ?_
  rintro e w7 ⟨ra7, rc7, rfl, ho7, hc7, hd7, hb7⟩
  unfold maxLen at hd7
  have hs7 := hb7.size
  have f7_arg0 := f6_arg0.below hb7
  have f7_arg1 := f6_arg1.below hb7
  have f7_x0 := f6_x0.below hb7
  have f7_x1 := f6_x1.below hb7
  have hB7 := hB6.trans (hb7.mono hB6.size)
  go_wp2_with fail
  go_at_call 28
  refine ((Nts.eq_same _ _ _ _ _ ra4 ra7 n0 _ _ _ f7_x0.row ho7.row (by omega))).mono ?_
  rintro e w8 ⟨rfl, m8, hw8⟩
  have hb8 : Below w7.heap.size w7 w8 := by rw [hw8]; exact below_drewN (Below.refl _ _) _
  clear hw8
  have hs8 := hb8.size
  have f8_arg0 := f7_arg0.below hb8
  have f8_arg1 := f7_arg1.below hb8
  have f8_x0 := f7_x0.below hb8
  have f8_x1 := f7_x1.below hb8
  have f8_y0 := ho7.below hb8
  have hB8 := hB7.trans (hb8.mono hB7.size)
  go_wp2_with fail
  go_at_call 27
  refine (Nts.to_any 0 w.heap.size _ a1 n1 _ z1 f8_arg1 hB8.size (by omega)).mono ?_
  rintro e w9 ⟨ra9, rc9, rfl, ho9, hc9, hd9, hb9⟩
  unfold maxLen at hd9
  have hs9 := hb9.size
  have f9_arg0 := f8_arg0.below hb9
  have f9_arg1 := f8_arg1.below hb9
  have f9_x0 := f8_x0.below hb9
  have f9_x1 := f8_x1.below hb9
  have hB9 := hB8.trans (hb9.mono hB8.size)
  go_wp2_with fail
  go_at_call 28
  refine ((Nts.eq_same _ _ _ _ _ ra5 ra9 n1 _ _ _ f9_x1.row ho9.row (by omega))).mono ?_
  rintro e w10 ⟨rfl, m10, hw10⟩
  have hb10 : Below w9.heap.size w9 w10 := by rw [hw10]; exact below_drewN (Below.refl _ _) _
  clear hw10
  have hs10 := hb10.size
  have f10_arg0 := f9_arg0.below hb10
  have f10_arg1 := f9_arg1.below hb10
  have f10_x0 := f9_x0.below hb10
  have f10_x1 := f9_x1.below hb10
  have f10_y1 := ho9.below hb10
  have hB10 := hB9.trans (hb10.mono hB9.size)
  go_wp2
  go_ret
  exact ⟨rfl, hB10⟩

set_option maxRecDepth 100000 in
theorem law_walk (a0 : Option Addr) (n0 c0 : Nat) (z0 : List Int) (a1 : Option Addr) (n1 c1 : Nat) (z1 : List Int) (w : World) (h0 : Row .i64 0 w.heap.size w a0 n0 z0) (h1 : Row .i64 0 w.heap.size w a1 n1 z1) :
    Calls Try.prog 12 #[.slice a0 n0 c0, .slice a1 n1 c1] w fun e w' => e = .returned (.bool true) ∧ Below w.heap.size w w' := by
  by_cases k0 : n0 ≤ 1048576
  rotate_left
  · have k0' : (1048576 : Int) < (n0 : Nat) := by omega
    go_enter Try.func12, Try.ntmps12
    go_wp2
    go_ret
    exact ⟨rfl, Below.refl _ _⟩
  by_cases k1 : n1 ≤ 1048576
  rotate_left
  · have k1' : (1048576 : Int) < (n1 : Nat) := by omega
    go_enter Try.func12, Try.ntmps12
    go_wp2
    go_ret
    exact ⟨rfl, Below.refl _ _⟩
  exact walk_small a0 n0 c0 z0 a1 n1 c1 z1 w h0 h1  k0 k1
end Go.Proofs.Ytmiemfecbllhfaa.FnExactEqualIntsW
