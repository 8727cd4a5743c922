/-
  The law FnExactTakePart returns true, and leaves what was there as it was.
  Conditions: the arguments can be read.
-/
import Derived.Test.YtedjclnojocjkaaDoorTakeI
import Derived.Test.YtedjclnojocjkaaDoorTold
import Derived.Test.YtedjclnojocjkaaDoorPtsSz
import Derived.Test.YtedjclnojocjkaaDoorPtsCopy
import Derived.Test.YtedjclnojocjkaaDoorHeld
namespace Go.Proofs.YtedjclnojocjkaaDoor.FnExactTakePartW
open Go Go.RowKit Go.Proofs.YtedjclnojocjkaaDoor.Mem Go.Proofs.YtedjclnojocjkaaDoor.Adr Go.Proofs.YtedjclnojocjkaaDoor.Res Go.Proofs.YtedjclnojocjkaaDoor.Parts
set_option linter.unusedVariables false

set_option maxHeartbeats 4000000 in
set_option maxRecDepth 100000 in
theorem law_walk (lA : List Prt) (aA : Option Addr) (nA cA : Nat) (xD : Int) (w : World) (rA : PRow 0 w.heap.size w aA nA lA) (bA : (nA : Int) ≤ 9223372036854775807) (wD : (Lit.int .i64 xD).wf = true) (a0 a1 : Addr) (hN : NoStore a0 w) (hP : NoPart a1 w) :
    Calls Tryd.prog 4 #[.slice aA nA cA, .int .i64 xD] w fun e w' => e = .returned (.bool true) ∧ Below w.heap.size w w' := by
  by_cases eA : (room lA : Int) ≤ 1048576
  rotate_left
  · have hB0 : Below w.heap.size w w := Below.refl _ _
    have hs0 : w.heap.size ≤ w.heap.size := Nat.le_refl _
    have fA := rA.below hB0
    have glhN : 0 < w.heap.size := Mem.cell_lt hN
    have hN := hN.below hB0
    have glhP : 1 < w.heap.size := Mem.cell_lt hP
    have hP := hP.below hB0
    go_enter Tryd.func4, Tryd.ntmps4
    go_wp2_with fail
    go_at_call 5
    refine (sz_parts 0 w.heap.size _ aA nA cA lA fA hB0.size 1048576 bA (by omega) (by omega)).mono ?_
    rintro e w1 ⟨rfl, hb1⟩
    rw [if_neg (show ¬ ((room lA : Int) ≤ 1048576) by omega)]
    have hs1 := hb1.size
    have fA := fA.below hb1
    have hN := hN.below hb1
    have hP := hP.below hb1
    have hB1 := hB0.trans (hb1.mono hB0.size)
    go_wp2
    go_ret
    exact ⟨rfl, hB1⟩
  obtain ⟨LA, hLA⟩ : ∃ L : Int, L = 1048576 - (room lA : Int) := ⟨_, rfl⟩
  have glA : 0 ≤ LA := by omega
  have gmA : LA ≤ 1048576 := by omega
  have rmA : room lA ≤ 1048576 := by omega
  have HLA := Lib.hid hLA
  clear hLA
  obtain ⟨R, hR⟩ : ∃ R, takeL xD lA = R := ⟨_, rfl⟩
  obtain ⟨B, hBB⟩ : ∃ B, takeB xD lA = B := ⟨_, rfl⟩
  have zR : room R ≤ 1048576 := by rw [← hR]; exact Nat.le_trans (takeL_room xD lA) rmA
  have zRq := room_eq R
  have hS : ∀ (W : World) (loA hiA : Nat) (aA' : Option Addr) (cA' : Nat), PRow loA hiA W aA' nA lA → hiA ≤ W.heap.size → Calls Tryd.prog 10 #[.slice aA' nA cA', .int .i64 xD] W (PTold W.heap.size R B W) := by
    intro W loA hiA aA' cA' gA gA'
    rw [← hR, ← hBB]
    exact (take_spec loA hiA W aA' nA cA' lA xD gA gA' rmA).mono fun _ _ h => h.told
  have hI : ∀ (W : World) (loA hiA : Nat) (aA' : Option Addr) (cA' : Nat), PRow loA hiA W aA' nA lA → hiA ≤ W.heap.size → NoStore a0 W → NoPart a1 W → Calls Tryd.prog 11 #[.slice aA' nA cA', .int .i64 xD] W (PTold W.heap.size R B W) := by
    intro W loA hiA aA' cA' gA gA' hN' hP'
    rw [← hR, ← hBB]
    exact (take_impl loA hiA W aA' nA cA' lA xD a0 a1 gA gA' rmA wD hN' hP').mono fun _ _ h => h.told
  have zqA := room_eq lA
  have zlA := rA.len
  have hB0 : Below w.heap.size w w := Below.refl _ _
  have hs0 : w.heap.size ≤ w.heap.size := Nat.le_refl _
  have fA := rA.below hB0
  have glhN : 0 < w.heap.size := Mem.cell_lt hN
  have hN := hN.below hB0
  have glhP : 1 < w.heap.size := Mem.cell_lt hP
  have hP := hP.below hB0
  go_enter Tryd.func4, Tryd.ntmps4
  go_wp2_with fail
  go_at_call 5
  refine (sz_parts 0 w.heap.size _ aA nA cA lA fA hB0.size 1048576 bA (by omega) (by omega)).mono ?_
  rintro e w1 ⟨rfl, hb1⟩
  rw [if_pos eA, ← HLA.out]
  have dA : decide (LA < 0) = false := by simp; omega
  have hs1 := hb1.size
  have fA := fA.below hb1
  have hN := hN.below hb1
  have hP := hP.below hb1
  have hB1 := hB0.trans (hb1.mono hB0.size)
  go_wp2_with fail
  go_at_call 7
  refine (to_parts 0 w.heap.size _ aA nA cA lA fA hB1.size (by omega)).mono ?_
  rintro e w2 ⟨ra2, rc2, rfl, ho2, hc2, hd2, hb2⟩
  have hs2 := hb2.size
  have fA := fA.below hb2
  have hN := hN.below hb2
  have hP := hP.below hb2
  have hB2 := hB1.trans (hb2.mono hB1.size)
  have gMA : POwn w1.heap.size w2.heap.size w2 ra2 nA lA := ho2
  clear ho2
  go_wp2_with fail
  go_at_call 10
  refine (hS _ _ _ _ _ gMA.row (by omega)).mono ?_
  rintro e w3 ⟨ra3, rc3, rfl, ho3, hc3, hd3, hb3⟩
  have hs3 := hb3.size
  have fA := fA.below hb3
  have hN := hN.below hb3
  have hP := hP.below hb3
  have hB3 := hB2.trans (hb3.mono hB2.size)
  clear hS gMA
  have gW : POwn w2.heap.size w3.heap.size w3 ra3 R.length R := ho3
  clear ho3
  go_wp2_with fail
  go_at_call 7
  refine (to_parts 0 w.heap.size _ aA nA cA lA fA hB3.size (by omega)).mono ?_
  rintro e w4 ⟨ra4, rc4, rfl, ho4, hc4, hd4, hb4⟩
  have hs4 := hb4.size
  have fA := fA.below hb4
  have hN := hN.below hb4
  have hP := hP.below hb4
  have gW := gW.below hb4
  have hB4 := hB3.trans (hb4.mono hB3.size)
  have gXA : POwn w3.heap.size w4.heap.size w4 ra4 nA lA := ho4
  clear ho4
  go_wp2_with fail
  go_at_call 11
  refine (hI _ _ _ _ _ gXA.row (by omega) hN hP).mono ?_
  rintro e w5 ⟨ra5, rc5, rfl, ho5, hc5, hd5, hb5⟩
  have hs5 := hb5.size
  have fA := fA.below hb5
  have hN := hN.below hb5
  have hP := hP.below hb5
  have gW := gW.below hb5
  have gXA := gXA.below hb5
  have hB5 := hB4.trans (hb5.mono hB4.size)
  have gG : POwn w4.heap.size w5.heap.size w5 ra5 R.length R := ho5
  clear ho5
  go_wp2_with fail
  go_at_call 9
  refine (eq_parts _ _ _ _ _ ra5 ra3 R.length _ _ R gG.row gW.row (by omega) (by omega) (by omega)).mono ?_
  rintro e w6 ⟨rfl, hb6⟩
  have hs6 := hb6.size
  have fA := fA.below hb6
  have hN := hN.below hb6
  have hP := hP.below hb6
  have gW := gW.below hb6
  have gXA := gXA.below hb6
  have gG := gG.below hb6
  have hB6 := hB5.trans (hb6.mono hB5.size)
  go_wp2_with fail
  go_at_call 7
  refine (to_parts 0 w.heap.size _ aA nA cA lA fA hB6.size (by omega)).mono ?_
  rintro e w7 ⟨ra7, rc7, rfl, ho7, hc7, hd7, hb7⟩
  have hs7 := hb7.size
  have fA := fA.below hb7
  have hN := hN.below hb7
  have hP := hP.below hb7
  have gW := gW.below hb7
  have gXA := gXA.below hb7
  have gG := gG.below hb7
  have hB7 := hB6.trans (hb7.mono hB6.size)
  have gcA0 : POwn w6.heap.size w7.heap.size w7 ra7 nA lA := ho7
  clear ho7
  go_wp2_with fail
  go_at_call 9
  refine (eq_parts _ _ _ _ _ ra4 ra7 nA _ _ lA gXA.row gcA0.row (by omega) (by omega) (by omega)).mono ?_
  rintro e w8 ⟨rfl, hb8⟩
  clear gcA0
  have hs8 := hb8.size
  have fA := fA.below hb8
  have hN := hN.below hb8
  have hP := hP.below hb8
  have gW := gW.below hb8
  have gXA := gXA.below hb8
  have gG := gG.below hb8
  have hB8 := hB7.trans (hb8.mono hB7.size)
  go_wp2_with fail
  go_at_call 12
  refine (mark_parts w3.heap.size w4.heap.size 1 _ ra4 nA _ lA gXA (by omega)).mono ?_
  rintro e w9 ⟨rfl, ho9, hz9⟩
  clear gXA ho9
  have hs9 := hz9.size
  have fA := fA.zone hz9 (by omega)
  have hN := hN.zone hz9 (by omega)
  have hP := hP.zone hz9 (by omega)
  have gW := gW.zone hz9 (by omega)
  have gG := gG.zone hz9 (by omega)
  have hB9 := hB8.trans (hz9.below (by omega) hB8.size)
  obtain ⟨K, hK⟩ : ∃ K : Int, K = ((1 + 6 * nA + bodies lA : Nat) : Int) := ⟨_, rfl⟩
  rw [← hK]
  have dK : decide (K < 0) = false := by simp; omega
  go_wp2_with fail
  go_at_call 9
  refine (eq_parts _ _ _ _ _ ra5 ra3 R.length _ _ R gG.row gW.row (by omega) (by omega) (by omega)).mono ?_
  rintro e w10 ⟨rfl, hb10⟩
  have hs10 := hb10.size
  have fA := fA.below hb10
  have hN := hN.below hb10
  have hP := hP.below hb10
  have gW := gW.below hb10
  have gG := gG.below hb10
  have hB10 := hB9.trans (hb10.mono hB9.size)
  go_wp2_with fail
  go_at_call 12
  refine (mark_parts w4.heap.size w5.heap.size 1 _ ra5 R.length _ R gG (by omega)).mono ?_
  rintro e w11 ⟨rfl, ho11, hz11⟩
  clear gG
  have hs11 := hz11.size
  have fA := fA.zone hz11 (by omega)
  have hN := hN.zone hz11 (by omega)
  have hP := hP.zone hz11 (by omega)
  have gW := gW.zone hz11 (by omega)
  have hB11 := hB10.trans (hz11.below (by omega) hB10.size)
  have gG := ho11
  clear ho11
  obtain ⟨M, hM⟩ : ∃ M : Int, M = ((1 + 6 * R.length + bodies R : Nat) : Int) := ⟨_, rfl⟩
  rw [← hM]
  have dM : decide (M < 0) = false := by simp; omega
  go_wp2_with fail
  go_at_call 13
  refine (held_parts _ _ 1 _ ra5 R.length _ R gG.row (by omega)).mono ?_
  rintro e w12 ⟨rfl, m12, hw12⟩
  have hb12 : Below w11.heap.size w11 w12 := by rw [hw12]; exact Mem.below_drewN (Below.refl _ _) _
  clear hw12
  have hs12 := hb12.size
  have fA := fA.below hb12
  have hN := hN.below hb12
  have hP := hP.below hb12
  have gW := gW.below hb12
  have gG := gG.below hb12
  have hB12 := hB11.trans (hb12.mono hB11.size)
  rw [← hM]
  go_wp2_with fail
  go_at_call 7
  refine (to_parts 0 w.heap.size _ aA nA cA lA fA hB12.size (by omega)).mono ?_
  rintro e w13 ⟨ra13, rc13, rfl, ho13, hc13, hd13, hb13⟩
  have hs13 := hb13.size
  have fA := fA.below hb13
  have hN := hN.below hb13
  have hP := hP.below hb13
  have gW := gW.below hb13
  have gG := gG.below hb13
  have hB13 := hB12.trans (hb13.mono hB12.size)
  have gYA : POwn w12.heap.size w13.heap.size w13 ra13 nA lA := ho13
  clear ho13
  go_wp2_with fail
  go_at_call 11
  refine (hI _ _ _ _ _ gYA.row (by omega) hN hP).mono ?_
  rintro e w14 ⟨ra14, rc14, rfl, ho14, hc14, hd14, hb14⟩
  have hs14 := hb14.size
  have fA := fA.below hb14
  have hN := hN.below hb14
  have hP := hP.below hb14
  have gW := gW.below hb14
  have gG := gG.below hb14
  have hB14 := hB13.trans (hb14.mono hB13.size)
  clear hI gYA
  have gH : POwn w13.heap.size w14.heap.size w14 ra14 R.length R := ho14
  clear ho14
  go_wp2_with fail
  go_at_call 9
  refine (eq_parts _ _ _ _ _ ra14 ra3 R.length _ _ R gH.row gW.row (by omega) (by omega) (by omega)).mono ?_
  rintro e w15 ⟨rfl, hb15⟩
  have hs15 := hb15.size
  have fA := fA.below hb15
  have hN := hN.below hb15
  have hP := hP.below hb15
  have gW := gW.below hb15
  have gG := gG.below hb15
  have gH := gH.below hb15
  have hB15 := hB14.trans (hb15.mono hB14.size)
  go_wp2_with fail
  go_at_call 13
  refine (held_parts _ _ 1 _ ra5 R.length _ R gG.row (by omega)).mono ?_
  rintro e w16 ⟨rfl, m16, hw16⟩
  have hb16 : Below w15.heap.size w15 w16 := by rw [hw16]; exact Mem.below_drewN (Below.refl _ _) _
  clear hw16
  have hs16 := hb16.size
  have fA := fA.below hb16
  have hN := hN.below hb16
  have hP := hP.below hb16
  have gW := gW.below hb16
  have gG := gG.below hb16
  have gH := gH.below hb16
  have hB16 := hB15.trans (hb16.mono hB15.size)
  rw [← hM]
  go_wp2
  go_ret
  exact ⟨rfl, hB16⟩
end Go.Proofs.YtedjclnojocjkaaDoor.FnExactTakePartW
