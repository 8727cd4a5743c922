/-
  The law FnExactApplyPieces returns true, and leaves what was there as it was.
  Conditions: the arguments can be read.
-/
import Derived.Test.YtkjglmfnlpapbaaPieceI
import Derived.Test.YtkjglmfnlpapbaaPiecesOf
import Derived.Test.YtkjglmfnlpapbaaPcCopy
import Derived.Test.YtkjglmfnlpapbaaPcMark
namespace Go.Proofs.Ytkjglmfnlpapbaa.FnExactApplyPiecesW
open Go Go.RowKit Go.Proofs.Ytkjglmfnlpapbaa.Mem Go.Proofs.Ytkjglmfnlpapbaa.Adr Go.Proofs.Ytkjglmfnlpapbaa.Res Go.Proofs.Ytkjglmfnlpapbaa.Pieces
set_option linter.unusedVariables false

set_option maxHeartbeats 4000000 in
set_option maxRecDepth 100000 in
theorem law_walk (zA : List Int) (aA : Option Addr) (nA cA : Nat) (lB : List Pc) (aB : Option Addr) (nB cB : Nat) (w : World) (rA : Row .i64 0 w.heap.size w aA nA zA) (bA : (nA : Int) ≤ 9223372036854775807) (rB : CRow 0 w.heap.size w aB nB lB) (bB : (nB : Int) ≤ 9223372036854775807) :
    Calls Try.prog 5 #[.slice aA nA cA, .slice aB nB cB] w fun e w' => e = .returned (.bool true) ∧ Below w.heap.size w w' := by
  by_cases kA : nA ≤ 1048576
  rotate_left
  · have kA' : decide ((nA : Int) > 1048576) = true := by simp; omega
    have kA'' : decide ((1048576 : Int) < nA) = true := by simp; omega
    go_enter Try.func5, Try.ntmps5
    go_wp2
    go_ret
    exact ⟨rfl, Below.refl _ _⟩
  have dA : decide ((nA : Int) > 1048576) = false := by simp; omega
  have dA' : decide ((1048576 : Int) < nA) = false := by simp; omega
  have rmA : nA ≤ 1048576 := kA
  by_cases eB : (room lB : Int) ≤ 1048576
  rotate_left
  · have hB0 : Below w.heap.size w w := Below.refl _ _
    have hs0 : w.heap.size ≤ w.heap.size := Nat.le_refl _
    have fA := rA
    have fB := rB
    go_enter Try.func5, Try.ntmps5
    go_wp2_with fail
    go_at_call 23
    refine (sz_pieces 0 w.heap.size _ aB nB cB lB fB hB0.size 1048576 bB (by omega) (by omega)).mono ?_
    rintro e w1 ⟨rfl, hb1⟩
    rw [if_neg (show ¬ ((room lB : Int) ≤ 1048576) by omega)]
    have hs1 : w.heap.size ≤ w1.heap.size := hb1.size
    have fA := fA.below hb1
    have fB := fB.below hb1
    have hB1 := hB0.trans (hb1.mono hB0.size)
    go_wp2
    go_ret
    exact ⟨rfl, hB1⟩
  have rmB : room lB ≤ 1048576 := by omega
  obtain ⟨LB, hLB⟩ : ∃ L : Int, L = 1048576 - (room lB : Int) := ⟨_, rfl⟩
  have glB : 0 ≤ LB := by omega
  have HLB := Lib.hid hLB
  clear hLB
  have zlB := rB.len
  have zqB := room_eq lB
  obtain ⟨R, hR⟩ : ∃ R, applyR zA lB = R := ⟨_, rfl⟩
  obtain ⟨B, hBB⟩ : ∃ B, applyB zA lB = B := ⟨_, rfl⟩
  have zR : R.length ≤ 1000 := by rw [← hR]; exact applyR_len
  have hS : ∀ (W : World) (loA hiA : Nat) (aA' : Option Addr) (cA' : Nat) (loB hiB : Nat) (aB' : Option Addr) (cB' : Nat), Row .i64 loA hiA W aA' nA zA → hiA ≤ W.heap.size → CRow loB hiB W aB' nB lB → hiB ≤ W.heap.size → nA ≤ cA' → nB ≤ cB' → Calls Try.prog 24 #[.slice aA' nA cA', .slice aB' nB cB'] W (CAns W.heap.size R B W) := by
    intro W loA hiA aA' cA' loB hiB aB' cB' gA gA' gB gB' tA tB
    rw [← hR, ← hBB]
    exact apply_spec loA hiA loB hiB W aA' nA cA' zA gA gA' tA rmA aB' nB cB' lB gB gB' rmB
  have hI : ∀ (W : World) (loA hiA : Nat) (aA' : Option Addr) (cA' : Nat) (loB hiB : Nat) (aB' : Option Addr) (cB' : Nat), Row .i64 loA hiA W aA' nA zA → hiA ≤ W.heap.size → CRow loB hiB W aB' nB lB → hiB ≤ W.heap.size → nA ≤ cA' → nB ≤ cB' → Calls Try.prog 11 #[.slice aA' nA cA', .slice aB' nB cB'] W (CAns W.heap.size R B W) := by
    intro W loA hiA aA' cA' loB hiB aB' cB' gA gA' gB gB' tA tB
    rw [← hR, ← hBB]
    exact apply_impl loA hiA loB hiB W aA' nA cA' zA gA gA' tA rmA aB' nB cB' lB gB gB' rmB
  clear hR hBB
  have hB0 : Below w.heap.size w w := Below.refl _ _
  have hs0 : w.heap.size ≤ w.heap.size := Nat.le_refl _
  have fA := rA
  have fB := rB
  go_enter Try.func5, Try.ntmps5
  go_wp2_with fail
  go_at_call 23
  refine (sz_pieces 0 w.heap.size _ aB nB cB lB fB hB0.size 1048576 bB (by omega) (by omega)).mono ?_
  rintro e w1 ⟨rfl, hb1⟩
  rw [if_pos eB, ← HLB.out]
  have dzB : decide (LB < 0) = false := by simp; omega
  have hs1 : w.heap.size ≤ w1.heap.size := hb1.size
  have fA := fA.below hb1
  have fB := fB.below hb1
  have hB1 := hB0.trans (hb1.mono hB0.size)
  go_wp2_with fail
  go_at_call 17
  refine (Nts.to_any 0 w.heap.size _ aA nA cA zA fA hB1.size (by omega)).mono ?_
  rintro e w2 ⟨ra2, rc2, rfl, ho2, hc2, hd2, hb2⟩
  have hs2 : w1.heap.size ≤ w2.heap.size := hb2.size
  have fA := fA.below hb2
  have fB := fB.below hb2
  have hB2 := hB1.trans (hb2.mono hB1.size)
  have gmA := ho2
  clear ho2
  go_wp2_with fail
  go_at_call 25
  refine (to_pieces 0 w.heap.size _ aB nB cB lB fB hB2.size (by omega)).mono ?_
  rintro e w3 ⟨ra3, rc3, rfl, ho3, hc3, hd3, hb3⟩
  have hs3 : w2.heap.size ≤ w3.heap.size := hb3.size
  have fA := fA.below hb3
  have fB := fB.below hb3
  have gmA := gmA.below hb3
  have hB3 := hB2.trans (hb3.mono hB2.size)
  have gmB := ho3
  clear ho3
  go_wp2_with fail
  go_at_call 24
  refine (hS _ _ _ _ _ _ _ _ _ gmA.row (by omega) gmB.row (by omega) hc2 hc3).mono ?_
  rintro e w4 ⟨ra4, rc4, rfl, ho4, hc4, hd4, hb4⟩
  have hs4 : w3.heap.size ≤ w4.heap.size := hb4.size
  have fA := fA.below hb4
  have fB := fB.below hb4
  have gmA := gmA.below hb4
  have gmB := gmB.below hb4
  have hB4 := hB3.trans (hb4.mono hB3.size)
  have gW := ho4
  clear ho4
  clear gmA
  clear gmB
  go_wp2_with fail
  go_at_call 17
  refine (Nts.to_any 0 w.heap.size _ aA nA cA zA fA hB4.size (by omega)).mono ?_
  rintro e w5 ⟨ra5, rc5, rfl, ho5, hc5, hd5, hb5⟩
  have hs5 : w4.heap.size ≤ w5.heap.size := hb5.size
  have fA := fA.below hb5
  have fB := fB.below hb5
  have gW := gW.below hb5
  have hB5 := hB4.trans (hb5.mono hB4.size)
  have gxA := ho5
  clear ho5
  go_wp2_with fail
  go_at_call 25
  refine (to_pieces 0 w.heap.size _ aB nB cB lB fB hB5.size (by omega)).mono ?_
  rintro e w6 ⟨ra6, rc6, rfl, ho6, hc6, hd6, hb6⟩
  have hs6 : w5.heap.size ≤ w6.heap.size := hb6.size
  have fA := fA.below hb6
  have fB := fB.below hb6
  have gW := gW.below hb6
  have gxA := gxA.below hb6
  have hB6 := hB5.trans (hb6.mono hB5.size)
  have gxB := ho6
  clear ho6
  go_wp2_with fail
  go_at_call 11
  refine (hI _ _ _ _ _ _ _ _ _ gxA.row (by omega) gxB.row (by omega) hc5 hc6).mono ?_
  rintro e w7 ⟨ra7, rc7, rfl, ho7, hc7, hd7, hb7⟩
  have hs7 : w6.heap.size ≤ w7.heap.size := hb7.size
  have fA := fA.below hb7
  have fB := fB.below hb7
  have gW := gW.below hb7
  have gxA := gxA.below hb7
  have gxB := gxB.below hb7
  have hB7 := hB6.trans (hb7.mono hB6.size)
  have gG := ho7
  clear ho7
  go_wp2_with fail
  go_at_call 19
  refine (Nts.eq_same _ _ _ _ _ ra7 ra4 R.length _ _ R gG.row gW.row (by omega)).mono ?_
  rintro e w8 ⟨rfl, m8, hw8⟩
  have hb8 : Below w7.heap.size w7 w8 := by rw [hw8]; exact Mem.below_drewN (Below.refl _ _) _
  clear hw8
  have hs8 : w7.heap.size ≤ w8.heap.size := hb8.size
  have fA := fA.below hb8
  have fB := fB.below hb8
  have gW := gW.below hb8
  have gxA := gxA.below hb8
  have gxB := gxB.below hb8
  have gG := gG.below hb8
  have hB8 := hB7.trans (hb8.mono hB7.size)
  go_wp2_with fail
  go_at_call 17
  refine (Nts.to_any 0 w.heap.size _ aA nA cA zA fA hB8.size (by omega)).mono ?_
  rintro e w9 ⟨ra9, rc9, rfl, ho9, hc9, hd9, hb9⟩
  have hs9 : w8.heap.size ≤ w9.heap.size := hb9.size
  have fA := fA.below hb9
  have fB := fB.below hb9
  have gW := gW.below hb9
  have gxA := gxA.below hb9
  have gxB := gxB.below hb9
  have gG := gG.below hb9
  have hB9 := hB8.trans (hb9.mono hB8.size)
  have gyA := ho9
  clear ho9
  go_wp2_with fail
  go_at_call 19
  refine (Nts.eq_same _ _ _ _ _ ra5 ra9 nA _ _ zA gxA.row gyA.row (by omega)).mono ?_
  rintro e w10 ⟨rfl, m10, hw10⟩
  have hb10 : Below w9.heap.size w9 w10 := by rw [hw10]; exact Mem.below_drewN (Below.refl _ _) _
  clear hw10
  have hs10 : w9.heap.size ≤ w10.heap.size := hb10.size
  have fA := fA.below hb10
  have fB := fB.below hb10
  have gW := gW.below hb10
  have gxA := gxA.below hb10
  have gxB := gxB.below hb10
  have gG := gG.below hb10
  have gyA := gyA.below hb10
  have hB10 := hB9.trans (hb10.mono hB9.size)
  clear gyA
  go_wp2_with fail
  go_at_call 25
  refine (to_pieces 0 w.heap.size _ aB nB cB lB fB hB10.size (by omega)).mono ?_
  rintro e w11 ⟨ra11, rc11, rfl, ho11, hc11, hd11, hb11⟩
  have hs11 : w10.heap.size ≤ w11.heap.size := hb11.size
  have fA := fA.below hb11
  have fB := fB.below hb11
  have gW := gW.below hb11
  have gxA := gxA.below hb11
  have gxB := gxB.below hb11
  have gG := gG.below hb11
  have hB11 := hB10.trans (hb11.mono hB10.size)
  have gyB := ho11
  clear ho11
  go_wp2_with fail
  go_at_call 18
  refine (eq_pieces _ _ _ _ _ ra6 ra11 nB _ _ lB gxB.row gyB.row (by omega) (by omega) (by omega)).mono ?_
  rintro e w12 ⟨rfl, hb12⟩
  have hs12 : w11.heap.size ≤ w12.heap.size := hb12.size
  have fA := fA.below hb12
  have fB := fB.below hb12
  have gW := gW.below hb12
  have gxA := gxA.below hb12
  have gxB := gxB.below hb12
  have gG := gG.below hb12
  have gyB := gyB.below hb12
  have hB12 := hB11.trans (hb12.mono hB11.size)
  clear gyB
  go_wp2_with fail
  go_at_call 20
  refine (Nts.mark_any w4.heap.size w5.heap.size 1 _ ra5 nA _ zA gxA (by omega)).mono ?_
  rintro e w13 ⟨rfl, ho13, hz13⟩
  clear gxA ho13
  have hs13 := hz13.size
  have fA := fA.zone hz13 (by omega)
  have fB := fB.zone hz13 (by omega)
  have gW := gW.zone hz13 (by omega)
  have gxB := gxB.zone hz13 (by omega)
  have gG := gG.zone hz13 (by omega)
  have hB13 := hB12.trans (hz13.below (by omega) hB12.size)
  obtain ⟨K0, hK0⟩ : ∃ K : Nat, K = 1 + nA := ⟨_, rfl⟩
  rw [← hK0]
  have zK0 : K0 ≤ 4194304 := by omega
  clear hK0
  go_wp2_with fail
  go_at_call 21
  refine (mark_pieces w5.heap.size w6.heap.size K0 _ ra6 nB _ lB gxB (by omega)).mono ?_
  rintro e w14 ⟨rfl, ho14, hz14⟩
  clear gxB ho14
  have hs14 := hz14.size
  have fA := fA.zone hz14 (by omega)
  have fB := fB.zone hz14 (by omega)
  have gW := gW.zone hz14 (by omega)
  have gG := gG.zone hz14 (by omega)
  have hB14 := hB13.trans (hz14.below (by omega) hB13.size)
  obtain ⟨K1, hK1⟩ : ∃ K : Nat, K = K0 + 2 * nB + bodies lB := ⟨_, rfl⟩
  rw [← hK1]
  have zK1 : K1 ≤ 8388608 := by omega
  clear hK1
  have dK : decide ((K1 : Int) < 0) = false := by first | (simp; done) | (simp; omega)
  go_wp2_with fail
  go_at_call 19
  refine (Nts.eq_same _ _ _ _ _ ra7 ra4 R.length _ _ R gG.row gW.row (by omega)).mono ?_
  rintro e w15 ⟨rfl, m15, hw15⟩
  have hb15 : Below w14.heap.size w14 w15 := by rw [hw15]; exact Mem.below_drewN (Below.refl _ _) _
  clear hw15
  have hs15 : w14.heap.size ≤ w15.heap.size := hb15.size
  have fA := fA.below hb15
  have fB := fB.below hb15
  have gW := gW.below hb15
  have gG := gG.below hb15
  have hB15 := hB14.trans (hb15.mono hB14.size)
  go_wp2_with fail
  go_at_call 20
  refine (Nts.mark_any w6.heap.size w7.heap.size 1 _ ra7 R.length _ R gG (by omega)).mono ?_
  rintro e w16 ⟨rfl, ho16, hz16⟩
  clear gG
  have hs16 := hz16.size
  have fA := fA.zone hz16 (by omega)
  have fB := fB.zone hz16 (by omega)
  have gW := gW.zone hz16 (by omega)
  have hB16 := hB15.trans (hz16.below (by omega) hB15.size)
  have gG := ho16
  clear ho16
  obtain ⟨M, hM⟩ : ∃ M : Int, M = ((1 + R.length : Nat) : Int) := ⟨_, rfl⟩
  rw [← hM]
  have dM : decide (M < 0) = false := by simp; omega
  have HM := Lib.hid hM
  clear hM
  go_wp2_with fail
  go_at_call 26
  refine (Nts.held_any _ _ 1 _ ra7 R.length _ gG.row (by omega)).mono ?_
  rintro e w17 ⟨rfl, m17, hw17⟩
  have hb17 : Below w16.heap.size w16 w17 := by rw [hw17]; exact Mem.below_drewN (Below.refl _ _) _
  clear hw17
  have hs17 : w16.heap.size ≤ w17.heap.size := hb17.size
  have fA := fA.below hb17
  have fB := fB.below hb17
  have gW := gW.below hb17
  have gG := gG.below hb17
  have hB17 := hB16.trans (hb17.mono hB16.size)
  rw [← HM.out]
  go_wp2_with fail
  go_at_call 17
  refine (Nts.to_any 0 w.heap.size _ aA nA cA zA fA hB17.size (by omega)).mono ?_
  rintro e w18 ⟨ra18, rc18, rfl, ho18, hc18, hd18, hb18⟩
  have hs18 : w17.heap.size ≤ w18.heap.size := hb18.size
  have fA := fA.below hb18
  have fB := fB.below hb18
  have gW := gW.below hb18
  have gG := gG.below hb18
  have hB18 := hB17.trans (hb18.mono hB17.size)
  have gtA := ho18
  clear ho18
  go_wp2_with fail
  go_at_call 25
  refine (to_pieces 0 w.heap.size _ aB nB cB lB fB hB18.size (by omega)).mono ?_
  rintro e w19 ⟨ra19, rc19, rfl, ho19, hc19, hd19, hb19⟩
  have hs19 : w18.heap.size ≤ w19.heap.size := hb19.size
  have fA := fA.below hb19
  have fB := fB.below hb19
  have gW := gW.below hb19
  have gG := gG.below hb19
  have gtA := gtA.below hb19
  have hB19 := hB18.trans (hb19.mono hB18.size)
  have gtB := ho19
  clear ho19
  go_wp2_with fail
  go_at_call 11
  refine (hI _ _ _ _ _ _ _ _ _ gtA.row (by omega) gtB.row (by omega) hc18 hc19).mono ?_
  rintro e w20 ⟨ra20, rc20, rfl, ho20, hc20, hd20, hb20⟩
  have hs20 : w19.heap.size ≤ w20.heap.size := hb20.size
  have fA := fA.below hb20
  have fB := fB.below hb20
  have gW := gW.below hb20
  have gG := gG.below hb20
  have gtA := gtA.below hb20
  have gtB := gtB.below hb20
  have hB20 := hB19.trans (hb20.mono hB19.size)
  have gH := ho20
  clear ho20
  clear gtA
  clear gtB
  go_wp2_with fail
  go_at_call 19
  refine (Nts.eq_same _ _ _ _ _ ra20 ra4 R.length _ _ R gH.row gW.row (by omega)).mono ?_
  rintro e w21 ⟨rfl, m21, hw21⟩
  have hb21 : Below w20.heap.size w20 w21 := by rw [hw21]; exact Mem.below_drewN (Below.refl _ _) _
  clear hw21
  have hs21 : w20.heap.size ≤ w21.heap.size := hb21.size
  have fA := fA.below hb21
  have fB := fB.below hb21
  have gW := gW.below hb21
  have gG := gG.below hb21
  have gH := gH.below hb21
  have hB21 := hB20.trans (hb21.mono hB20.size)
  go_wp2_with fail
  go_at_call 26
  refine (Nts.held_any _ _ 1 _ ra7 R.length _ gG.row (by omega)).mono ?_
  rintro e w22 ⟨rfl, m22, hw22⟩
  have hb22 : Below w21.heap.size w21 w22 := by rw [hw22]; exact Mem.below_drewN (Below.refl _ _) _
  clear hw22
  have hs22 : w21.heap.size ≤ w22.heap.size := hb22.size
  have fA := fA.below hb22
  have fB := fB.below hb22
  have gW := gW.below hb22
  have gG := gG.below hb22
  have gH := gH.below hb22
  have hB22 := hB21.trans (hb22.mono hB21.size)
  rw [← HM.out]
  go_wp2
  go_ret
  exact ⟨rfl, hB22⟩
end Go.Proofs.Ytkjglmfnlpapbaa.FnExactApplyPiecesW
