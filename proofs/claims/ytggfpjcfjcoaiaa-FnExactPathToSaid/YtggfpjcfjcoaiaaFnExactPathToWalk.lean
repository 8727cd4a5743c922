/-
  The law FnExactPathTo returns true, and leaves what was there as it was.
  Conditions: the arguments can be read.
-/
import Derived.Test.YtggfpjcfjcoaiaaPathW
namespace Go.Proofs.Ytggfpjcfjcoaiaa.FnExactPathToW
open Go Go.RowKit Go.Proofs.Ytggfpjcfjcoaiaa.Mem

set_option maxHeartbeats 2000000 in
set_option maxRecDepth 100000 in
theorem walk_small (a0 : Option Addr) (n0 c0 : Nat) (z0 : List Int) (x1 : Int) (w : World) (h0 : Row .i64 0 w.heap.size w a0 n0 z0) (hx1 : (Lit.int .i64 x1).wf = true) (k0 : n0 ≤ 1048576) :
    Calls Try.prog 6 #[.slice a0 n0 c0, .int .i64 x1] w fun e w' => e = .returned (.bool true) ∧ Below w.heap.size w w' := by
  have hlen : (Tre.pth z0 x1).length ≤ 1048576 := by have := Tre.pth_len z0 x1; have := h0.len; omega
  go_enter Try.func6, Try.ntmps6
  go_wp2_with fail
  go_at_call 21
  refine (Nts.to_any 0 w.heap.size _ a0 n0 _ z0 h0 (Nat.le_refl _) (by omega)).mono ?_
  rintro e w1 ⟨ra1, rc1, rfl, ho1, hc1, hd1, hb1⟩
  unfold maxLen at hd1
  have hs1 := hb1.size
  have f1_arg0 := h0.below hb1
  have hB1 := hb1
  go_wp2_with fail
  go_at_call 23
  refine (Tre.path_spec_row w.heap.size w1.heap.size _ _ x1 _ _ z0 ho1.row (by omega) (by unfold maxLen; omega) (by omega) hx1).mono ?_
  rintro e w2 ⟨ra2, rc2, rfl, ho2, _, _, hb2⟩
  have hs2 := hb2.size
  have f2_arg0 := f1_arg0.below hb2
  have f2_t0 := ho1.below hb2
  have hB2 := hB1.trans (hb2.mono hB1.size)
  go_wp2_with fail
  go_at_call 21
  refine (Nts.to_any 0 w.heap.size _ a0 n0 _ z0 f2_arg0 hB2.size (by omega)).mono ?_
  rintro e w3 ⟨ra3, rc3, rfl, ho3, hc3, hd3, hb3⟩
  unfold maxLen at hd3
  have hs3 := hb3.size
  have f3_arg0 := f2_arg0.below hb3
  have f3_W := ho2.below hb3
  have hB3 := hB2.trans (hb3.mono hB2.size)
  go_wp2_with fail
  go_at_call 10
  refine (Tre.path_impl_row w2.heap.size w3.heap.size _ _ x1 _ _ z0 ho3.row (by omega) (by unfold maxLen; omega) (by omega) (by omega)).mono ?_
  rintro e w4 ⟨ra4, rc4, rfl, ho4, _, _, hb4⟩
  have hs4 := hb4.size
  have f4_arg0 := f3_arg0.below hb4
  have f4_W := f3_W.below hb4
  have f4_x0 := ho3.below hb4
  have hB4 := hB3.trans (hb4.mono hB3.size)
  go_wp2_with fail
  go_at_call 22
  refine ((Nts.eq_same _ _ _ _ _ ra4 ra2 (Tre.pth z0 x1).length _ _ _ ho4.row f4_W.row (by omega))).mono ?_
  rintro e w5 ⟨rfl, m5, hw5⟩
  have hb5 : Below w4.heap.size w4 w5 := by rw [hw5]; exact below_drewN (Below.refl _ _) _
  clear hw5
  have hs5 := hb5.size
  have f5_arg0 := f4_arg0.below hb5
  have f5_W := f4_W.below hb5
  have f5_x0 := f4_x0.below hb5
  have f5_G := ho4.below hb5
  have hB5 := hB4.trans (hb5.mono hB4.size)
  go_wp2_with fail
  go_at_call 21
  refine (Nts.to_any 0 w.heap.size _ a0 n0 _ z0 f5_arg0 hB5.size (by omega)).mono ?_
  rintro e w6 ⟨ra6, rc6, rfl, ho6, hc6, hd6, hb6⟩
  unfold maxLen at hd6
  have hs6 := hb6.size
  have f6_arg0 := f5_arg0.below hb6
  have f6_W := f5_W.below hb6
  have f6_x0 := f5_x0.below hb6
  have f6_G := f5_G.below hb6
  have hB6 := hB5.trans (hb6.mono hB5.size)
  go_wp2_with fail
  go_at_call 22
  refine ((Nts.eq_same _ _ _ _ _ ra3 ra6 n0 _ _ _ f6_x0.row ho6.row (by omega))).mono ?_
  rintro e w7 ⟨rfl, m7, hw7⟩
  have hb7 : Below w6.heap.size w6 w7 := by rw [hw7]; exact below_drewN (Below.refl _ _) _
  clear hw7
  have hs7 := hb7.size
  have f7_arg0 := f6_arg0.below hb7
  have f7_W := f6_W.below hb7
  have f7_x0 := f6_x0.below hb7
  have f7_G := f6_G.below hb7
  have f7_y0 := ho6.below hb7
  have hB7 := hB6.trans (hb7.mono hB6.size)
  go_wp2_with fail
  go_at_call 24
  refine (Nts.mark_any w2.heap.size w3.heap.size (1) _ ra3 n0 _ _ f7_x0 (by omega)).mono ?_
  rintro e w8 ⟨rfl, ho8, hz8⟩
  have hs8 := hz8.size
  have f8_arg0 := f7_arg0.zone hz8 (by omega)
  have f8_W := f7_W.zone hz8 (by omega)
  have f8_G := f7_G.zone hz8 (by omega)
  have hB8 := hB7.trans (hz8.below (by omega) hB7.size)
  go_wp2_with fail
  go_at_call 22
  refine ((Nts.eq_same _ _ _ _ _ ra4 ra2 (Tre.pth z0 x1).length _ _ _ f8_G.row f8_W.row (by omega))).mono ?_
  rintro e w9 ⟨rfl, m9, hw9⟩
  have hb9 : Below w8.heap.size w8 w9 := by rw [hw9]; exact below_drewN (Below.refl _ _) _
  clear hw9
  have hs9 := hb9.size
  have f9_arg0 := f8_arg0.below hb9
  have f9_W := f8_W.below hb9
  have f9_G := f8_G.below hb9
  have f9_x0 := ho8.below hb9
  have hB9 := hB8.trans (hb9.mono hB8.size)
  go_wp2_with fail
  go_at_call 24
  refine (Nts.mark_any w3.heap.size w4.heap.size (1) _ ra4 (Tre.pth z0 x1).length _ _ f9_G (by omega)).mono ?_
  rintro e w10 ⟨rfl, ho10, hz10⟩
  have hs10 := hz10.size
  have f10_arg0 := f9_arg0.zone hz10 (by omega)
  have f10_W := f9_W.zone hz10 (by omega)
  have hB10 := hB9.trans (hz10.below (by omega) hB9.size)
  go_wp2_with fail
  go_at_call 25
  refine (Nts.held_any w3.heap.size w4.heap.size (1) _ ra4 (Tre.pth z0 x1).length _ ho10.row (by omega)).mono ?_
  rintro e w11 ⟨rfl, m11, hw11⟩
  have hb11 : Below w10.heap.size w10 w11 := by rw [hw11]; exact below_drewN (Below.refl _ _) _
  clear hw11
  have hs11 := hb11.size
  have f11_arg0 := f10_arg0.below hb11
  have f11_W := f10_W.below hb11
  have f11_G := ho10.below hb11
  have hB11 := hB10.trans (hb11.mono hB10.size)
  go_wp2_with fail
  go_at_call 21
  refine (Nts.to_any 0 w.heap.size _ a0 n0 _ z0 f11_arg0 hB11.size (by omega)).mono ?_
  rintro e w12 ⟨ra12, rc12, rfl, ho12, hc12, hd12, hb12⟩
  unfold maxLen at hd12
  have hs12 := hb12.size
  have f12_arg0 := f11_arg0.below hb12
  have f12_W := f11_W.below hb12
  have f12_G := f11_G.below hb12
  have hB12 := hB11.trans (hb12.mono hB11.size)
  go_wp2_with fail
  go_at_call 10
  refine (Tre.path_impl_row w11.heap.size w12.heap.size _ _ x1 _ _ z0 ho12.row (by omega) (by unfold maxLen; omega) (by omega) (by omega)).mono ?_
  rintro e w13 ⟨ra13, rc13, rfl, ho13, _, _, hb13⟩
  have hs13 := hb13.size
  have f13_arg0 := f12_arg0.below hb13
  have f13_W := f12_W.below hb13
  have f13_G := f12_G.below hb13
  have f13_t0 := ho12.below hb13
  have hB13 := hB12.trans (hb13.mono hB12.size)
  go_wp2_with fail
  go_at_call 22
  refine ((Nts.eq_same _ _ _ _ _ ra13 ra2 (Tre.pth z0 x1).length _ _ _ ho13.row f13_W.row (by omega))).mono ?_
  rintro e w14 ⟨rfl, m14, hw14⟩
  have hb14 : Below w13.heap.size w13 w14 := by rw [hw14]; exact below_drewN (Below.refl _ _) _
  clear hw14
  have hs14 := hb14.size
  have f14_arg0 := f13_arg0.below hb14
  have f14_W := f13_W.below hb14
  have f14_G := f13_G.below hb14
  have f14_H := ho13.below hb14
  have hB14 := hB13.trans (hb14.mono hB13.size)
  go_wp2_with fail
  go_at_call 25
  refine (Nts.held_any w3.heap.size w4.heap.size (1) _ ra4 (Tre.pth z0 x1).length _ f14_G.row (by omega)).mono ?_
  rintro e w15 ⟨rfl, m15, hw15⟩
  have hb15 : Below w14.heap.size w14 w15 := by rw [hw15]; exact below_drewN (Below.refl _ _) _
  clear hw15
  have hs15 := hb15.size
  have f15_arg0 := f14_arg0.below hb15
  have f15_W := f14_W.below hb15
  have f15_G := f14_G.below hb15
  have f15_H := f14_H.below hb15
  have hB15 := hB14.trans (hb15.mono hB14.size)
  go_wp2
  go_ret
  exact ⟨rfl, hB15⟩

set_option maxRecDepth 100000 in
theorem law_walk (a0 : Option Addr) (n0 c0 : Nat) (z0 : List Int) (x1 : Int) (w : World) (h0 : Row .i64 0 w.heap.size w a0 n0 z0) (hx1 : (Lit.int .i64 x1).wf = true) :
    Calls Try.prog 6 #[.slice a0 n0 c0, .int .i64 x1] w fun e w' => e = .returned (.bool true) ∧ Below w.heap.size w w' := by
  by_cases k0 : n0 ≤ 1048576
  rotate_left
  · have k0' : (1048576 : Int) < (n0 : Nat) := by omega
    go_enter Try.func6, Try.ntmps6
    go_wp2
    go_ret
    exact ⟨rfl, Below.refl _ _⟩
  exact walk_small a0 n0 c0 z0 x1 w h0 hx1 k0
end Go.Proofs.Ytggfpjcfjcoaiaa.FnExactPathToW
