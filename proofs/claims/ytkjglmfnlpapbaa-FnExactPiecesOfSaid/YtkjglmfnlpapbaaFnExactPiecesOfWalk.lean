/-
  The law FnExactPiecesOf returns true, and leaves what was there as it was.
  Conditions: the arguments can be read.
-/
import Derived.Test.YtkjglmfnlpapbaaPieceI
import Derived.Test.YtkjglmfnlpapbaaPiecesOf
import Derived.Test.YtkjglmfnlpapbaaPcCopy
import Derived.Test.YtkjglmfnlpapbaaPcMark
namespace Go.Proofs.Ytkjglmfnlpapbaa.FnExactPiecesOfW
open Go Go.RowKit Go.Proofs.Ytkjglmfnlpapbaa.Mem Go.Proofs.Ytkjglmfnlpapbaa.Adr Go.Proofs.Ytkjglmfnlpapbaa.Res Go.Proofs.Ytkjglmfnlpapbaa.Pieces
set_option linter.unusedVariables false

set_option maxHeartbeats 4000000 in
set_option maxRecDepth 100000 in
theorem law_walk (zA : List Int) (aA : Option Addr) (nA cA : Nat) (zB : List Int) (aB : Option Addr) (nB cB : Nat) (w : World) (rA : Row .i64 0 w.heap.size w aA nA zA) (bA : (nA : Int) ≤ 9223372036854775807) (rB : Row .i64 0 w.heap.size w aB nB zB) (bB : (nB : Int) ≤ 9223372036854775807) :
    Calls Try.prog 4 #[.slice aA nA cA, .slice aB nB cB] w fun e w' => e = .returned (.bool true) ∧ Below w.heap.size w w' := by
  by_cases kA : nA ≤ 1048576
  rotate_left
  · have kA' : decide ((nA : Int) > 1048576) = true := by simp; omega
    have kA'' : decide ((1048576 : Int) < nA) = true := by simp; omega
    go_enter Try.func4, Try.ntmps4
    go_wp2
    go_ret
    exact ⟨rfl, Below.refl _ _⟩
  have dA : decide ((nA : Int) > 1048576) = false := by simp; omega
  have dA' : decide ((1048576 : Int) < nA) = false := by simp; omega
  have rmA : nA ≤ 1048576 := kA
  by_cases kB : nB ≤ 1048576
  rotate_left
  · have kB' : decide ((nB : Int) > 1048576) = true := by simp; omega
    have kB'' : decide ((1048576 : Int) < nB) = true := by simp; omega
    go_enter Try.func4, Try.ntmps4
    go_wp2
    go_ret
    exact ⟨rfl, Below.refl _ _⟩
  have dB : decide ((nB : Int) > 1048576) = false := by simp; omega
  have dB' : decide ((1048576 : Int) < nB) = false := by simp; omega
  have rmB : nB ≤ 1048576 := kB
  obtain ⟨R, hR⟩ : ∃ R, piecesL zA zB = R := ⟨_, rfl⟩
  have zR : room R ≤ 102 := by rw [← hR]; exact room_pieces
  have zRq := room_eq R
  have hS : ∀ (W : World) (loA hiA : Nat) (aA' : Option Addr) (cA' : Nat) (loB hiB : Nat) (aB' : Option Addr) (cB' : Nat), Row .i64 loA hiA W aA' nA zA → hiA ≤ W.heap.size → Row .i64 loB hiB W aB' nB zB → hiB ≤ W.heap.size → nA ≤ cA' → nB ≤ cB' → Calls Try.prog 16 #[.slice aA' nA cA', .slice aB' nB cB'] W (CList W.heap.size R W) := by
    intro W loA hiA aA' cA' loB hiB aB' cB' gA gA' gB gB' tA tB
    rw [← hR]
    exact pieces_spec loA hiA loB hiB W aA' nA cA' zA aB' nB cB' zB gA gB tB rmA rmB
  have hI : ∀ (W : World) (loA hiA : Nat) (aA' : Option Addr) (cA' : Nat) (loB hiB : Nat) (aB' : Option Addr) (cB' : Nat), Row .i64 loA hiA W aA' nA zA → hiA ≤ W.heap.size → Row .i64 loB hiB W aB' nB zB → hiB ≤ W.heap.size → nA ≤ cA' → nB ≤ cB' → Calls Try.prog 10 #[.slice aA' nA cA', .slice aB' nB cB'] W (CList W.heap.size R W) := by
    intro W loA hiA aA' cA' loB hiB aB' cB' gA gA' gB gB' tA tB
    rw [← hR]
    exact pieces_impl loA hiA loB hiB W aA' nA cA' zA aB' nB cB' zB gA gA' gB gB' tA tB rmA rmB
  clear hR
  have hB0 : Below w.heap.size w w := Below.refl _ _
  have hs0 : w.heap.size ≤ w.heap.size := Nat.le_refl _
  have fA := rA
  have fB := rB
  go_enter Try.func4, Try.ntmps4
  go_wp2_with fail
  go_at_call 17
  refine (Nts.to_any 0 w.heap.size _ aA nA cA zA fA hB0.size (by omega)).mono ?_
  rintro e w1 ⟨ra1, rc1, rfl, ho1, hc1, hd1, hb1⟩
  have hs1 : w.heap.size ≤ w1.heap.size := hb1.size
  have fA := fA.below hb1
  have fB := fB.below hb1
  have hB1 := hB0.trans (hb1.mono hB0.size)
  have gmA := ho1
  clear ho1
  go_wp2_with fail
  go_at_call 17
  refine (Nts.to_any 0 w.heap.size _ aB nB cB zB fB hB1.size (by omega)).mono ?_
  rintro e w2 ⟨ra2, rc2, rfl, ho2, hc2, hd2, hb2⟩
  have hs2 : w1.heap.size ≤ w2.heap.size := hb2.size
  have fA := fA.below hb2
  have fB := fB.below hb2
  have gmA := gmA.below hb2
  have hB2 := hB1.trans (hb2.mono hB1.size)
  have gmB := ho2
  clear ho2
  go_wp2_with fail
  go_at_call 16
  refine (hS _ _ _ _ _ _ _ _ _ gmA.row (by omega) gmB.row (by omega) hc1 hc2).mono ?_
  rintro e w3 ⟨ra3, rc3, rfl, ho3, hc3, hd3, hb3⟩
  have hs3 : w2.heap.size ≤ w3.heap.size := hb3.size
  have fA := fA.below hb3
  have fB := fB.below hb3
  have gmA := gmA.below hb3
  have gmB := gmB.below hb3
  have hB3 := hB2.trans (hb3.mono hB2.size)
  have gW := ho3
  clear ho3
  clear gmA
  clear gmB
  go_wp2_with fail
  go_at_call 17
  refine (Nts.to_any 0 w.heap.size _ aA nA cA zA fA hB3.size (by omega)).mono ?_
  rintro e w4 ⟨ra4, rc4, rfl, ho4, hc4, hd4, hb4⟩
  have hs4 : w3.heap.size ≤ w4.heap.size := hb4.size
  have fA := fA.below hb4
  have fB := fB.below hb4
  have gW := gW.below hb4
  have hB4 := hB3.trans (hb4.mono hB3.size)
  have gxA := ho4
  clear ho4
  go_wp2_with fail
  go_at_call 17
  refine (Nts.to_any 0 w.heap.size _ aB nB cB zB fB hB4.size (by omega)).mono ?_
  rintro e w5 ⟨ra5, rc5, rfl, ho5, hc5, hd5, hb5⟩
  have hs5 : w4.heap.size ≤ w5.heap.size := hb5.size
  have fA := fA.below hb5
  have fB := fB.below hb5
  have gW := gW.below hb5
  have gxA := gxA.below hb5
  have hB5 := hB4.trans (hb5.mono hB4.size)
  have gxB := ho5
  clear ho5
  go_wp2_with fail
  go_at_call 10
  refine (hI _ _ _ _ _ _ _ _ _ gxA.row (by omega) gxB.row (by omega) hc4 hc5).mono ?_
  rintro e w6 ⟨ra6, rc6, rfl, ho6, hc6, hd6, hb6⟩
  have hs6 : w5.heap.size ≤ w6.heap.size := hb6.size
  have fA := fA.below hb6
  have fB := fB.below hb6
  have gW := gW.below hb6
  have gxA := gxA.below hb6
  have gxB := gxB.below hb6
  have hB6 := hB5.trans (hb6.mono hB5.size)
  have gG := ho6
  clear ho6
  go_wp2_with fail
  go_at_call 18
  refine (eq_pieces _ _ _ _ _ ra6 ra3 R.length _ _ R gG.row gW.row (by omega) (by omega) (by omega)).mono ?_
  rintro e w7 ⟨rfl, hb7⟩
  have hs7 : w6.heap.size ≤ w7.heap.size := hb7.size
  have fA := fA.below hb7
  have fB := fB.below hb7
  have gW := gW.below hb7
  have gxA := gxA.below hb7
  have gxB := gxB.below hb7
  have gG := gG.below hb7
  have hB7 := hB6.trans (hb7.mono hB6.size)
  go_wp2_with fail
  go_at_call 17
  refine (Nts.to_any 0 w.heap.size _ aA nA cA zA fA hB7.size (by omega)).mono ?_
  rintro e w8 ⟨ra8, rc8, rfl, ho8, hc8, hd8, hb8⟩
  have hs8 : w7.heap.size ≤ w8.heap.size := hb8.size
  have fA := fA.below hb8
  have fB := fB.below hb8
  have gW := gW.below hb8
  have gxA := gxA.below hb8
  have gxB := gxB.below hb8
  have gG := gG.below hb8
  have hB8 := hB7.trans (hb8.mono hB7.size)
  have gyA := ho8
  clear ho8
  go_wp2_with fail
  go_at_call 19
  refine (Nts.eq_same _ _ _ _ _ ra4 ra8 nA _ _ zA gxA.row gyA.row (by omega)).mono ?_
  rintro e w9 ⟨rfl, m9, hw9⟩
  have hb9 : Below w8.heap.size w8 w9 := by rw [hw9]; exact Mem.below_drewN (Below.refl _ _) _
  clear hw9
  have hs9 : w8.heap.size ≤ w9.heap.size := hb9.size
  have fA := fA.below hb9
  have fB := fB.below hb9
  have gW := gW.below hb9
  have gxA := gxA.below hb9
  have gxB := gxB.below hb9
  have gG := gG.below hb9
  have gyA := gyA.below hb9
  have hB9 := hB8.trans (hb9.mono hB8.size)
  clear gyA
  go_wp2_with fail
  go_at_call 17
  refine (Nts.to_any 0 w.heap.size _ aB nB cB zB fB hB9.size (by omega)).mono ?_
  rintro e w10 ⟨ra10, rc10, rfl, ho10, hc10, hd10, hb10⟩
  have hs10 : w9.heap.size ≤ w10.heap.size := hb10.size
  have fA := fA.below hb10
  have fB := fB.below hb10
  have gW := gW.below hb10
  have gxA := gxA.below hb10
  have gxB := gxB.below hb10
  have gG := gG.below hb10
  have hB10 := hB9.trans (hb10.mono hB9.size)
  have gyB := ho10
  clear ho10
  go_wp2_with fail
  go_at_call 19
  refine (Nts.eq_same _ _ _ _ _ ra5 ra10 nB _ _ zB gxB.row gyB.row (by omega)).mono ?_
  rintro e w11 ⟨rfl, m11, hw11⟩
  have hb11 : Below w10.heap.size w10 w11 := by rw [hw11]; exact Mem.below_drewN (Below.refl _ _) _
  clear hw11
  have hs11 : w10.heap.size ≤ w11.heap.size := hb11.size
  have fA := fA.below hb11
  have fB := fB.below hb11
  have gW := gW.below hb11
  have gxA := gxA.below hb11
  have gxB := gxB.below hb11
  have gG := gG.below hb11
  have gyB := gyB.below hb11
  have hB11 := hB10.trans (hb11.mono hB10.size)
  clear gyB
  go_wp2_with fail
  go_at_call 20
  refine (Nts.mark_any w3.heap.size w4.heap.size 1 _ ra4 nA _ zA gxA (by omega)).mono ?_
  rintro e w12 ⟨rfl, ho12, hz12⟩
  clear gxA ho12
  have hs12 := hz12.size
  have fA := fA.zone hz12 (by omega)
  have fB := fB.zone hz12 (by omega)
  have gW := gW.zone hz12 (by omega)
  have gxB := gxB.zone hz12 (by omega)
  have gG := gG.zone hz12 (by omega)
  have hB12 := hB11.trans (hz12.below (by omega) hB11.size)
  obtain ⟨K0, hK0⟩ : ∃ K : Nat, K = 1 + nA := ⟨_, rfl⟩
  rw [← hK0]
  have zK0 : K0 ≤ 4194304 := by omega
  clear hK0
  go_wp2_with fail
  go_at_call 20
  refine (Nts.mark_any w4.heap.size w5.heap.size K0 _ ra5 nB _ zB gxB (by omega)).mono ?_
  rintro e w13 ⟨rfl, ho13, hz13⟩
  clear gxB ho13
  have hs13 := hz13.size
  have fA := fA.zone hz13 (by omega)
  have fB := fB.zone hz13 (by omega)
  have gW := gW.zone hz13 (by omega)
  have gG := gG.zone hz13 (by omega)
  have hB13 := hB12.trans (hz13.below (by omega) hB12.size)
  obtain ⟨K1, hK1⟩ : ∃ K : Nat, K = K0 + nB := ⟨_, rfl⟩
  rw [← hK1]
  have zK1 : K1 ≤ 8388608 := by omega
  clear hK1
  have dK : decide ((K1 : Int) < 0) = false := by first | (simp; done) | (simp; omega)
  go_wp2_with fail
  go_at_call 18
  refine (eq_pieces _ _ _ _ _ ra6 ra3 R.length _ _ R gG.row gW.row (by omega) (by omega) (by omega)).mono ?_
  rintro e w14 ⟨rfl, hb14⟩
  have hs14 : w13.heap.size ≤ w14.heap.size := hb14.size
  have fA := fA.below hb14
  have fB := fB.below hb14
  have gW := gW.below hb14
  have gG := gG.below hb14
  have hB14 := hB13.trans (hb14.mono hB13.size)
  go_wp2_with fail
  go_at_call 21
  refine (mark_pieces w5.heap.size w6.heap.size 1 _ ra6 R.length _ R gG (by omega)).mono ?_
  rintro e w15 ⟨rfl, ho15, hz15⟩
  clear gG
  have hs15 := hz15.size
  have fA := fA.zone hz15 (by omega)
  have fB := fB.zone hz15 (by omega)
  have gW := gW.zone hz15 (by omega)
  have hB15 := hB14.trans (hz15.below (by omega) hB14.size)
  have gG := ho15
  clear ho15
  obtain ⟨M, hM⟩ : ∃ M : Int, M = ((1 + 2 * R.length + bodies R : Nat) : Int) := ⟨_, rfl⟩
  rw [← hM]
  have dM : decide (M < 0) = false := by simp; omega
  have HM := Lib.hid hM
  clear hM
  go_wp2_with fail
  go_at_call 22
  refine (held_pieces _ _ 1 _ ra6 R.length _ R gG.row (by omega)).mono ?_
  rintro e w16 ⟨rfl, m16, hw16⟩
  have hb16 : Below w15.heap.size w15 w16 := by rw [hw16]; exact Mem.below_drewN (Below.refl _ _) _
  clear hw16
  have hs16 : w15.heap.size ≤ w16.heap.size := hb16.size
  have fA := fA.below hb16
  have fB := fB.below hb16
  have gW := gW.below hb16
  have gG := gG.below hb16
  have hB16 := hB15.trans (hb16.mono hB15.size)
  rw [← HM.out]
  go_wp2_with fail
  go_at_call 17
  refine (Nts.to_any 0 w.heap.size _ aA nA cA zA fA hB16.size (by omega)).mono ?_
  rintro e w17 ⟨ra17, rc17, rfl, ho17, hc17, hd17, hb17⟩
  have hs17 : w16.heap.size ≤ w17.heap.size := hb17.size
  have fA := fA.below hb17
  have fB := fB.below hb17
  have gW := gW.below hb17
  have gG := gG.below hb17
  have hB17 := hB16.trans (hb17.mono hB16.size)
  have gtA := ho17
  clear ho17
  go_wp2_with fail
  go_at_call 17
  refine (Nts.to_any 0 w.heap.size _ aB nB cB zB fB hB17.size (by omega)).mono ?_
  rintro e w18 ⟨ra18, rc18, rfl, ho18, hc18, hd18, hb18⟩
  have hs18 : w17.heap.size ≤ w18.heap.size := hb18.size
  have fA := fA.below hb18
  have fB := fB.below hb18
  have gW := gW.below hb18
  have gG := gG.below hb18
  have gtA := gtA.below hb18
  have hB18 := hB17.trans (hb18.mono hB17.size)
  have gtB := ho18
  clear ho18
  go_wp2_with fail
  go_at_call 10
  refine (hI _ _ _ _ _ _ _ _ _ gtA.row (by omega) gtB.row (by omega) hc17 hc18).mono ?_
  rintro e w19 ⟨ra19, rc19, rfl, ho19, hc19, hd19, hb19⟩
  have hs19 : w18.heap.size ≤ w19.heap.size := hb19.size
  have fA := fA.below hb19
  have fB := fB.below hb19
  have gW := gW.below hb19
  have gG := gG.below hb19
  have gtA := gtA.below hb19
  have gtB := gtB.below hb19
  have hB19 := hB18.trans (hb19.mono hB18.size)
  have gH := ho19
  clear ho19
  clear gtA
  clear gtB
  go_wp2_with fail
  go_at_call 18
  refine (eq_pieces _ _ _ _ _ ra19 ra3 R.length _ _ R gH.row gW.row (by omega) (by omega) (by omega)).mono ?_
  rintro e w20 ⟨rfl, hb20⟩
  have hs20 : w19.heap.size ≤ w20.heap.size := hb20.size
  have fA := fA.below hb20
  have fB := fB.below hb20
  have gW := gW.below hb20
  have gG := gG.below hb20
  have gH := gH.below hb20
  have hB20 := hB19.trans (hb20.mono hB19.size)
  go_wp2_with fail
  go_at_call 22
  refine (held_pieces _ _ 1 _ ra6 R.length _ R gG.row (by omega)).mono ?_
  rintro e w21 ⟨rfl, m21, hw21⟩
  have hb21 : Below w20.heap.size w20 w21 := by rw [hw21]; exact Mem.below_drewN (Below.refl _ _) _
  clear hw21
  have hs21 : w20.heap.size ≤ w21.heap.size := hb21.size
  have fA := fA.below hb21
  have fB := fB.below hb21
  have gW := gW.below hb21
  have gG := gG.below hb21
  have gH := gH.below hb21
  have hB21 := hB20.trans (hb21.mono hB20.size)
  rw [← HM.out]
  go_wp2
  go_ret
  exact ⟨rfl, hB21⟩
end Go.Proofs.Ytkjglmfnlpapbaa.FnExactPiecesOfW
