/-
  The law FnExactAppendBytes returns true, and leaves what was there as it was.
  Conditions: the arguments can be read.
-/
import Derived.Test.YtplkkmjfglgecaaVar2
namespace Go.Proofs.Ytplkkmjfglgecaa.FnExactAppendBytesW
open Go Go.RowKit Go.Proofs.Ytplkkmjfglgecaa.Mem

set_option maxHeartbeats 2000000 in
set_option maxRecDepth 100000 in
theorem walk_small (a0 : Option Addr) (n0 c0 : Nat) (z0 : List Int) (a1 : Option Addr) (n1 c1 : Nat) (z1 : List Int) (w : World) (h0 : Row .u8 0 w.heap.size w a0 n0 z0) (h1 : Row .u8 0 w.heap.size w a1 n1 z1) (k0 : n0 ≤ 1048576) (k1 : n1 ≤ 1048576) :
    Calls Try.prog 7 #[.slice a0 n0 c0, .slice a1 n1 c1] w fun e w' => e = .returned (.bool true) ∧ Below w.heap.size w w' := by
  have hlen : (Var.appB z0 z1).length ≤ 2097160 := by have := Var.appB_len z0 z1; have := h0.len; have := h1.len; omega
  go_enter Try.func7, Try.ntmps7
  go_wp2_with fail
  go_at_call 27
  refine (Byt.to_any 0 w.heap.size _ a0 n0 _ z0 h0 (Nat.le_refl _) (by omega)).mono ?_
  rintro e w1 ⟨ra1, rc1, rfl, ho1, _, _, hb1⟩
  have hs1 := hb1.size
  have f1_arg0 := h0.below hb1
  have f1_arg1 := h1.below hb1
  have hB1 := hb1
  go_wp2_with fail
  go_at_call 27
  refine (Byt.to_any 0 w.heap.size _ a1 n1 _ z1 f1_arg1 hB1.size (by omega)).mono ?_
  rintro e w2 ⟨ra2, rc2, rfl, ho2, _, _, hb2⟩
  have hs2 := hb2.size
  have f2_arg0 := f1_arg0.below hb2
  have f2_arg1 := f1_arg1.below hb2
  have f2_t0 := ho1.below hb2
  have hB2 := hB1.trans (hb2.mono hB1.size)
  go_wp2_with fail
  go_at_call 31
  refine (Var.bytes_spec w.heap.size w1.heap.size w1.heap.size w2.heap.size _ _ _ _ _ _ _ z0 z1 f2_t0.row ho2.row (by omega) (by omega) (by omega) (by omega)).mono ?_
  rintro e w3 ⟨ra3, rc3, rfl, ho3, _, _, hb3⟩
  have hs3 := hb3.size
  have f3_arg0 := f2_arg0.below hb3
  have f3_arg1 := f2_arg1.below hb3
  have f3_t0 := f2_t0.below hb3
  have f3_t1 := ho2.below hb3
  have hB3 := hB2.trans (hb3.mono hB2.size)
  go_wp2_with fail
  go_at_call 27
  refine (Byt.to_any 0 w.heap.size _ a0 n0 _ z0 f3_arg0 hB3.size (by omega)).mono ?_
  rintro e w4 ⟨ra4, rc4, rfl, ho4, _, _, hb4⟩
  have hs4 := hb4.size
  have f4_arg0 := f3_arg0.below hb4
  have f4_arg1 := f3_arg1.below hb4
  have f4_W := ho3.below hb4
  have hB4 := hB3.trans (hb4.mono hB3.size)
  go_wp2_with fail
  go_at_call 27
  refine (Byt.to_any 0 w.heap.size _ a1 n1 _ z1 f4_arg1 hB4.size (by omega)).mono ?_
  rintro e w5 ⟨ra5, rc5, rfl, ho5, _, _, hb5⟩
  have hs5 := hb5.size
  have f5_arg0 := f4_arg0.below hb5
  have f5_arg1 := f4_arg1.below hb5
  have f5_W := f4_W.below hb5
  have f5_x0 := ho4.below hb5
  have hB5 := hB4.trans (hb5.mono hB4.size)
  go_wp2_with fail
  go_at_call 20
  refine (Var.bytes_impl w3.heap.size w4.heap.size w4.heap.size w5.heap.size _ _ _ _ _ _ _ z0 z1 f5_x0.row ho5.row (by omega) (by omega) (by omega) (by omega)).mono ?_
  rintro e w6 ⟨ra6, rc6, rfl, ho6, _, _, hb6⟩
  have hs6 := hb6.size
  have f6_arg0 := f5_arg0.below hb6
  have f6_arg1 := f5_arg1.below hb6
  have f6_W := f5_W.below hb6
  have f6_x0 := f5_x0.below hb6
  have f6_x1 := ho5.below hb6
  have hB6 := hB5.trans (hb6.mono hB5.size)
  go_wp2_with fail
  go_at_call 28
  refine ((Byt.eq_same _ _ _ _ _ ra6 ra3 (Var.appB z0 z1).length _ _ _ ho6.row f6_W.row (by omega))).mono ?_
  rintro e w7 ⟨rfl, m7, hw7⟩
  have hb7 : Below w6.heap.size w6 w7 := by rw [hw7]; exact below_drewN (Below.refl _ _) _
  clear hw7
  have hs7 := hb7.size
  have f7_arg0 := f6_arg0.below hb7
  have f7_arg1 := f6_arg1.below hb7
  have f7_W := f6_W.below hb7
  have f7_x0 := f6_x0.below hb7
  have f7_x1 := f6_x1.below hb7
  have f7_G := ho6.below hb7
  have hB7 := hB6.trans (hb7.mono hB6.size)
  go_wp2_with fail
  go_at_call 27
  refine (Byt.to_any 0 w.heap.size _ a0 n0 _ z0 f7_arg0 hB7.size (by omega)).mono ?_
  rintro e w8 ⟨ra8, rc8, rfl, ho8, _, _, hb8⟩
  have hs8 := hb8.size
  have f8_arg0 := f7_arg0.below hb8
  have f8_arg1 := f7_arg1.below hb8
  have f8_W := f7_W.below hb8
  have f8_x0 := f7_x0.below hb8
  have f8_x1 := f7_x1.below hb8
  have f8_G := f7_G.below hb8
  have hB8 := hB7.trans (hb8.mono hB7.size)
  go_wp2_with fail
  go_at_call 28
  refine ((Byt.eq_same _ _ _ _ _ ra4 ra8 n0 _ _ _ f8_x0.row ho8.row (by omega))).mono ?_
  rintro e w9 ⟨rfl, m9, hw9⟩
  have hb9 : Below w8.heap.size w8 w9 := by rw [hw9]; exact below_drewN (Below.refl _ _) _
  clear hw9
  have hs9 := hb9.size
  have f9_arg0 := f8_arg0.below hb9
  have f9_arg1 := f8_arg1.below hb9
  have f9_W := f8_W.below hb9
  have f9_x0 := f8_x0.below hb9
  have f9_x1 := f8_x1.below hb9
  have f9_G := f8_G.below hb9
  have f9_y0 := ho8.below hb9
  have hB9 := hB8.trans (hb9.mono hB8.size)
  go_wp2_with fail
  go_at_call 27
  refine (Byt.to_any 0 w.heap.size _ a1 n1 _ z1 f9_arg1 hB9.size (by omega)).mono ?_
  rintro e w10 ⟨ra10, rc10, rfl, ho10, _, _, hb10⟩
  have hs10 := hb10.size
  have f10_arg0 := f9_arg0.below hb10
  have f10_arg1 := f9_arg1.below hb10
  have f10_W := f9_W.below hb10
  have f10_x0 := f9_x0.below hb10
  have f10_x1 := f9_x1.below hb10
  have f10_G := f9_G.below hb10
  have hB10 := hB9.trans (hb10.mono hB9.size)
  go_wp2_with fail
  go_at_call 28
  refine ((Byt.eq_same _ _ _ _ _ ra5 ra10 n1 _ _ _ f10_x1.row ho10.row (by omega))).mono ?_
  rintro e w11 ⟨rfl, m11, hw11⟩
  have hb11 : Below w10.heap.size w10 w11 := by rw [hw11]; exact below_drewN (Below.refl _ _) _
  clear hw11
  have hs11 := hb11.size
  have f11_arg0 := f10_arg0.below hb11
  have f11_arg1 := f10_arg1.below hb11
  have f11_W := f10_W.below hb11
  have f11_x0 := f10_x0.below hb11
  have f11_x1 := f10_x1.below hb11
  have f11_G := f10_G.below hb11
  have f11_y1 := ho10.below hb11
  have hB11 := hB10.trans (hb11.mono hB10.size)
  go_wp2_with fail
  go_at_call 29
  refine (Byt.mark_any w3.heap.size w4.heap.size (1) _ ra4 n0 _ _ f11_x0 (by omega)).mono ?_
  rintro e w12 ⟨rfl, ho12, hz12⟩
  have hs12 := hz12.size
  have f12_arg0 := f11_arg0.zone hz12 (by omega)
  have f12_arg1 := f11_arg1.zone hz12 (by omega)
  have f12_W := f11_W.zone hz12 (by omega)
  have f12_x1 := f11_x1.zone hz12 (by omega)
  have f12_G := f11_G.zone hz12 (by omega)
  have hB12 := hB11.trans (hz12.below (by omega) hB11.size)
  go_wp2_with fail
  go_at_call 29
  refine (Byt.mark_any w4.heap.size w5.heap.size (1 + n0) _ ra5 n1 _ _ f12_x1 (by omega)).mono ?_
  rintro e w13 ⟨rfl, ho13, hz13⟩
  have hs13 := hz13.size
  have f13_arg0 := f12_arg0.zone hz13 (by omega)
  have f13_arg1 := f12_arg1.zone hz13 (by omega)
  have f13_W := f12_W.zone hz13 (by omega)
  have f13_G := f12_G.zone hz13 (by omega)
  have f13_x0 := ho12.zone hz13 (by omega)
  have hB13 := hB12.trans (hz13.below (by omega) hB12.size)
  go_wp2_with fail
  go_at_call 28
  refine ((Byt.eq_same _ _ _ _ _ ra6 ra3 (Var.appB z0 z1).length _ _ _ f13_G.row f13_W.row (by omega))).mono ?_
  rintro e w14 ⟨rfl, m14, hw14⟩
  have hb14 : Below w13.heap.size w13 w14 := by rw [hw14]; exact below_drewN (Below.refl _ _) _
  clear hw14
  have hs14 := hb14.size
  have f14_arg0 := f13_arg0.below hb14
  have f14_arg1 := f13_arg1.below hb14
  have f14_W := f13_W.below hb14
  have f14_G := f13_G.below hb14
  have f14_x0 := f13_x0.below hb14
  have f14_x1 := ho13.below hb14
  have hB14 := hB13.trans (hb14.mono hB13.size)
  go_wp2_with fail
  go_at_call 29
  refine (Byt.mark_any w5.heap.size w6.heap.size (1) _ ra6 (Var.appB z0 z1).length _ _ f14_G (by omega)).mono ?_
  rintro e w15 ⟨rfl, ho15, hz15⟩
  have hs15 := hz15.size
  have f15_arg0 := f14_arg0.zone hz15 (by omega)
  have f15_arg1 := f14_arg1.zone hz15 (by omega)
  have f15_W := f14_W.zone hz15 (by omega)
  have hB15 := hB14.trans (hz15.below (by omega) hB14.size)
  go_wp2_with fail
  go_at_call 30
  refine (Byt.held_any w5.heap.size w6.heap.size (1) _ ra6 (Var.appB z0 z1).length _ ho15.row (by omega)).mono ?_
  rintro e w16 ⟨rfl, m16, hw16⟩
  have hb16 : Below w15.heap.size w15 w16 := by rw [hw16]; exact below_drewN (Below.refl _ _) _
  clear hw16
  have hs16 := hb16.size
  have f16_arg0 := f15_arg0.below hb16
  have f16_arg1 := f15_arg1.below hb16
  have f16_W := f15_W.below hb16
  have f16_G := ho15.below hb16
  have hB16 := hB15.trans (hb16.mono hB15.size)
  go_wp2_with fail
  go_at_call 27
  refine (Byt.to_any 0 w.heap.size _ a0 n0 _ z0 f16_arg0 hB16.size (by omega)).mono ?_
  rintro e w17 ⟨ra17, rc17, rfl, ho17, _, _, hb17⟩
  have hs17 := hb17.size
  have f17_arg0 := f16_arg0.below hb17
  have f17_arg1 := f16_arg1.below hb17
  have f17_W := f16_W.below hb17
  have f17_G := f16_G.below hb17
  have hB17 := hB16.trans (hb17.mono hB16.size)
  go_wp2_with fail
  go_at_call 27
  refine (Byt.to_any 0 w.heap.size _ a1 n1 _ z1 f17_arg1 hB17.size (by omega)).mono ?_
  rintro e w18 ⟨ra18, rc18, rfl, ho18, _, _, hb18⟩
  have hs18 := hb18.size
  have f18_arg0 := f17_arg0.below hb18
  have f18_arg1 := f17_arg1.below hb18
  have f18_W := f17_W.below hb18
  have f18_G := f17_G.below hb18
  have f18_t0 := ho17.below hb18
  have hB18 := hB17.trans (hb18.mono hB17.size)
  go_wp2_with fail
  go_at_call 20
  refine (Var.bytes_impl w16.heap.size w17.heap.size w17.heap.size w18.heap.size _ _ _ _ _ _ _ z0 z1 f18_t0.row ho18.row (by omega) (by omega) (by omega) (by omega)).mono ?_
  rintro e w19 ⟨ra19, rc19, rfl, ho19, _, _, hb19⟩
  have hs19 := hb19.size
  have f19_arg0 := f18_arg0.below hb19
  have f19_arg1 := f18_arg1.below hb19
  have f19_W := f18_W.below hb19
  have f19_G := f18_G.below hb19
  have f19_t0 := f18_t0.below hb19
  have f19_t1 := ho18.below hb19
  have hB19 := hB18.trans (hb19.mono hB18.size)
  go_wp2_with fail
  go_at_call 28
  refine ((Byt.eq_same _ _ _ _ _ ra19 ra3 (Var.appB z0 z1).length _ _ _ ho19.row f19_W.row (by omega))).mono ?_
  rintro e w20 ⟨rfl, m20, hw20⟩
  have hb20 : Below w19.heap.size w19 w20 := by rw [hw20]; exact below_drewN (Below.refl _ _) _
  clear hw20
  have hs20 := hb20.size
  have f20_arg0 := f19_arg0.below hb20
  have f20_arg1 := f19_arg1.below hb20
  have f20_W := f19_W.below hb20
  have f20_G := f19_G.below hb20
  have f20_H := ho19.below hb20
  have hB20 := hB19.trans (hb20.mono hB19.size)
  go_wp2_with fail
  go_at_call 30
  refine (Byt.held_any w5.heap.size w6.heap.size (1) _ ra6 (Var.appB z0 z1).length _ f20_G.row (by omega)).mono ?_
  rintro e w21 ⟨rfl, m21, hw21⟩
  have hb21 : Below w20.heap.size w20 w21 := by rw [hw21]; exact below_drewN (Below.refl _ _) _
  clear hw21
  have hs21 := hb21.size
  have f21_arg0 := f20_arg0.below hb21
  have f21_arg1 := f20_arg1.below hb21
  have f21_W := f20_W.below hb21
  have f21_G := f20_G.below hb21
  have f21_H := f20_H.below hb21
  have hB21 := hB20.trans (hb21.mono hB20.size)
  go_wp2
  go_ret
  exact ⟨rfl, hB21⟩

set_option maxRecDepth 100000 in
theorem law_walk (a0 : Option Addr) (n0 c0 : Nat) (z0 : List Int) (a1 : Option Addr) (n1 c1 : Nat) (z1 : List Int) (w : World) (h0 : Row .u8 0 w.heap.size w a0 n0 z0) (h1 : Row .u8 0 w.heap.size w a1 n1 z1) :
    Calls Try.prog 7 #[.slice a0 n0 c0, .slice a1 n1 c1] w fun e w' => e = .returned (.bool true) ∧ Below w.heap.size w w' := by
  by_cases k0 : n0 ≤ 1048576
  rotate_left
  · have k0' : (1048576 : Int) < n0 := by omega
    go_enter Try.func7, Try.ntmps7
    go_wp2
    go_ret
    exact ⟨rfl, Below.refl _ _⟩
  by_cases k1 : n1 ≤ 1048576
  rotate_left
  · have k1' : (1048576 : Int) < n1 := by omega
    go_enter Try.func7, Try.ntmps7
    go_wp2
    go_ret
    exact ⟨rfl, Below.refl _ _⟩
  exact walk_small a0 n0 c0 z0 a1 n1 c1 z1 w h0 h1  k0 k1
end Go.Proofs.Ytplkkmjfglgecaa.FnExactAppendBytesW
