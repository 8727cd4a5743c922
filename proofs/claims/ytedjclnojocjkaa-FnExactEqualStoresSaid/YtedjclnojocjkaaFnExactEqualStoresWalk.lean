/-
  The law FnExactEqualStores returns true, and leaves what was there as it was.
  Conditions: the arguments can be read.
-/
import Derived.Test.YtedjclnojocjkaaSameL
import Derived.Test.YtedjclnojocjkaaPtsSz
import Derived.Test.YtedjclnojocjkaaPtsCopy
namespace Go.Proofs.Ytedjclnojocjkaa.FnExactEqualStoresW
open Go Go.RowKit Go.Proofs.Ytedjclnojocjkaa.Mem Go.Proofs.Ytedjclnojocjkaa.Adr Go.Proofs.Ytedjclnojocjkaa.Res Go.Proofs.Ytedjclnojocjkaa.Parts
set_option linter.unusedVariables false

set_option maxHeartbeats 4000000 in
set_option maxRecDepth 100000 in
theorem law_walk (lA : List Prt) (aA : Option Addr) (nA cA : Nat) (lB : List Prt) (aB : Option Addr) (nB cB : Nat) (w : World) (rA : PRow 0 w.heap.size w aA nA lA) (bA : (nA : Int) ≤ 9223372036854775807) (rB : PRow 0 w.heap.size w aB nB lB) (bB : (nB : Int) ≤ 9223372036854775807) :
    Calls Try.prog 5 #[.slice aA nA cA, .slice aB nB cB] w fun e w' => e = .returned (.bool true) ∧ Below w.heap.size w w' := by
  by_cases eA : (room lA : Int) ≤ 1048576
  rotate_left
  · have hB0 : Below w.heap.size w w := Below.refl _ _
    have hs0 : w.heap.size ≤ w.heap.size := Nat.le_refl _
    have fA := rA.below hB0
    have fB := rB.below hB0
    go_enter Try.func5, Try.ntmps5
    go_wp2_with fail
    go_at_call 6
    refine (sz_parts 0 w.heap.size _ aA nA cA lA fA hB0.size 1048576 bA (by omega) (by omega)).mono ?_
    rintro e w1 ⟨rfl, hb1⟩
    rw [if_neg (show ¬ ((room lA : Int) ≤ 1048576) by omega)]
    have hs1 := hb1.size
    have fA := fA.below hb1
    have fB := fB.below hb1
    have hB1 := hB0.trans (hb1.mono hB0.size)
    go_wp2
    go_ret
    exact ⟨rfl, hB1⟩
  obtain ⟨LA, hLA⟩ : ∃ L : Int, L = 1048576 - (room lA : Int) := ⟨_, rfl⟩
  have glA : 0 ≤ LA := by omega
  have gmA : LA ≤ 1048576 := by omega
  have rmA : room lA ≤ 1048576 := by omega
  have HLA := Lib.hid hLA
  clear hLA
  by_cases eB : (room lB : Int) ≤ LA
  rotate_left
  · have hB0 : Below w.heap.size w w := Below.refl _ _
    have hs0 : w.heap.size ≤ w.heap.size := Nat.le_refl _
    have fA := rA.below hB0
    have fB := rB.below hB0
    go_enter Try.func5, Try.ntmps5
    go_wp2_with fail
    go_at_call 6
    refine (sz_parts 0 w.heap.size _ aA nA cA lA fA hB0.size 1048576 bA (by omega) (by omega)).mono ?_
    rintro e w1 ⟨rfl, hb1⟩
    rw [if_pos (show (room lA : Int) ≤ 1048576 from eA), ← HLA.out]
    have dA : decide (LA < 0) = false := by simp; omega
    have hs1 := hb1.size
    have fA := fA.below hb1
    have fB := fB.below hb1
    have hB1 := hB0.trans (hb1.mono hB0.size)
    go_wp2_with fail
    go_at_call 6
    refine (sz_parts 0 w.heap.size _ aB nB cB lB fB hB1.size LA bB (by omega) (by omega)).mono ?_
    rintro e w2 ⟨rfl, hb2⟩
    rw [if_neg (show ¬ ((room lB : Int) ≤ LA) by omega)]
    have hs2 := hb2.size
    have fA := fA.below hb2
    have fB := fB.below hb2
    have hB2 := hB1.trans (hb2.mono hB1.size)
    go_wp2
    go_ret
    exact ⟨rfl, hB2⟩
  obtain ⟨LB, hLB⟩ : ∃ L : Int, L = LA - (room lB : Int) := ⟨_, rfl⟩
  have glB : 0 ≤ LB := by omega
  have gmB : LB ≤ 1048576 := by omega
  have rmB : room lB ≤ 1048576 := by omega
  have HLB := Lib.hid hLB
  clear hLB
  obtain ⟨R, hR⟩ : ∃ R, sameL lA lB = R := ⟨_, rfl⟩
  have hS : ∀ (W : World) (loA hiA : Nat) (aA' : Option Addr) (cA' : Nat) (loB hiB : Nat) (aB' : Option Addr) (cB' : Nat), PRow loA hiA W aA' nA lA → hiA ≤ W.heap.size → PRow loB hiB W aB' nB lB → hiB ≤ W.heap.size → Calls Try.prog 17 #[.slice aA' nA cA', .slice aB' nB cB'] W (fun e w' => e = .returned (.bool R) ∧ Below W.heap.size W w') := by
    intro W loA hiA aA' cA' loB hiB aB' cB' gA gA' gB gB'
    rw [← hR]
    exact stores_spec loA hiA loB hiB W aA' aB' nA nB cA' cB' lA lB gA gB gA' gB' rmA rmB
  have hI : ∀ (W : World) (loA hiA : Nat) (aA' : Option Addr) (cA' : Nat) (loB hiB : Nat) (aB' : Option Addr) (cB' : Nat), PRow loA hiA W aA' nA lA → hiA ≤ W.heap.size → PRow loB hiB W aB' nB lB → hiB ≤ W.heap.size → Calls Try.prog 18 #[.slice aA' nA cA', .slice aB' nB cB'] W (fun e w' => e = .returned (.bool R) ∧ Below W.heap.size W w') := by
    intro W loA hiA aA' cA' loB hiB aB' cB' gA gA' gB gB'
    rw [← hR]
    exact stores_impl loA hiA loB hiB W aA' aB' nA nB cA' cB' lA lB gA gB gA' gB' rmA rmB
  have zqA := room_eq lA
  have zlA := rA.len
  have zqB := room_eq lB
  have zlB := rB.len
  have hB0 : Below w.heap.size w w := Below.refl _ _
  have hs0 : w.heap.size ≤ w.heap.size := Nat.le_refl _
  have fA := rA.below hB0
  have fB := rB.below hB0
  go_enter Try.func5, Try.ntmps5
  go_wp2_with fail
  go_at_call 6
  refine (sz_parts 0 w.heap.size _ aA nA cA lA fA hB0.size 1048576 bA (by omega) (by omega)).mono ?_
  rintro e w1 ⟨rfl, hb1⟩
  rw [if_pos eA, ← HLA.out]
  have dA : decide (LA < 0) = false := by simp; omega
  have hs1 := hb1.size
  have fA := fA.below hb1
  have fB := fB.below hb1
  have hB1 := hB0.trans (hb1.mono hB0.size)
  go_wp2_with fail
  go_at_call 6
  refine (sz_parts 0 w.heap.size _ aB nB cB lB fB hB1.size LA bB (by omega) (by omega)).mono ?_
  rintro e w2 ⟨rfl, hb2⟩
  rw [if_pos eB, ← HLB.out]
  have dB : decide (LB < 0) = false := by simp; omega
  have hs2 := hb2.size
  have fA := fA.below hb2
  have fB := fB.below hb2
  have hB2 := hB1.trans (hb2.mono hB1.size)
  go_wp2_with fail
  go_at_call 8
  refine (to_parts 0 w.heap.size _ aA nA cA lA fA hB2.size (by omega)).mono ?_
  rintro e w3 ⟨ra3, rc3, rfl, ho3, hc3, hd3, hb3⟩
  have hs3 := hb3.size
  have fA := fA.below hb3
  have fB := fB.below hb3
  have hB3 := hB2.trans (hb3.mono hB2.size)
  have gMA : POwn w2.heap.size w3.heap.size w3 ra3 nA lA := ho3
  clear ho3
  go_wp2_with fail
  go_at_call 8
  refine (to_parts 0 w.heap.size _ aB nB cB lB fB hB3.size (by omega)).mono ?_
  rintro e w4 ⟨ra4, rc4, rfl, ho4, hc4, hd4, hb4⟩
  have hs4 := hb4.size
  have fA := fA.below hb4
  have fB := fB.below hb4
  have gMA := gMA.below hb4
  have hB4 := hB3.trans (hb4.mono hB3.size)
  have gMB : POwn w3.heap.size w4.heap.size w4 ra4 nB lB := ho4
  clear ho4
  go_wp2_with fail
  go_at_call 17
  refine (hS _ _ _ _ _ _ _ _ _ gMA.row (by omega) gMB.row (by omega)).mono ?_
  rintro e w5 ⟨rfl, hb5⟩
  have hs5 := hb5.size
  have fA := fA.below hb5
  have fB := fB.below hb5
  have hB5 := hB4.trans (hb5.mono hB4.size)
  clear hS gMA gMB
  go_wp2_with fail
  go_at_call 8
  refine (to_parts 0 w.heap.size _ aA nA cA lA fA hB5.size (by omega)).mono ?_
  rintro e w6 ⟨ra6, rc6, rfl, ho6, hc6, hd6, hb6⟩
  have hs6 := hb6.size
  have fA := fA.below hb6
  have fB := fB.below hb6
  have hB6 := hB5.trans (hb6.mono hB5.size)
  have gXA : POwn w5.heap.size w6.heap.size w6 ra6 nA lA := ho6
  clear ho6
  go_wp2_with fail
  go_at_call 8
  refine (to_parts 0 w.heap.size _ aB nB cB lB fB hB6.size (by omega)).mono ?_
  rintro e w7 ⟨ra7, rc7, rfl, ho7, hc7, hd7, hb7⟩
  have hs7 := hb7.size
  have fA := fA.below hb7
  have fB := fB.below hb7
  have gXA := gXA.below hb7
  have hB7 := hB6.trans (hb7.mono hB6.size)
  have gXB : POwn w6.heap.size w7.heap.size w7 ra7 nB lB := ho7
  clear ho7
  go_wp2_with fail
  go_at_call 18
  refine (hI _ _ _ _ _ _ _ _ _ gXA.row (by omega) gXB.row (by omega)).mono ?_
  rintro e w8 ⟨rfl, hb8⟩
  have hs8 := hb8.size
  have fA := fA.below hb8
  have fB := fB.below hb8
  have gXA := gXA.below hb8
  have gXB := gXB.below hb8
  have hB8 := hB7.trans (hb8.mono hB7.size)
  go_wp2_with fail
  go_at_call 8
  refine (to_parts 0 w.heap.size _ aA nA cA lA fA hB8.size (by omega)).mono ?_
  rintro e w9 ⟨ra9, rc9, rfl, ho9, hc9, hd9, hb9⟩
  have hs9 := hb9.size
  have fA := fA.below hb9
  have fB := fB.below hb9
  have gXA := gXA.below hb9
  have gXB := gXB.below hb9
  have hB9 := hB8.trans (hb9.mono hB8.size)
  have gcA0 : POwn w8.heap.size w9.heap.size w9 ra9 nA lA := ho9
  clear ho9
  go_wp2_with fail
  go_at_call 11
  refine (eq_parts _ _ _ _ _ ra6 ra9 nA _ _ lA gXA.row gcA0.row (by omega) (by omega) (by omega)).mono ?_
  rintro e w10 ⟨rfl, hb10⟩
  clear gcA0
  have hs10 := hb10.size
  have fA := fA.below hb10
  have fB := fB.below hb10
  have gXA := gXA.below hb10
  have gXB := gXB.below hb10
  have hB10 := hB9.trans (hb10.mono hB9.size)
  go_wp2_with fail
  go_at_call 8
  refine (to_parts 0 w.heap.size _ aB nB cB lB fB hB10.size (by omega)).mono ?_
  rintro e w11 ⟨ra11, rc11, rfl, ho11, hc11, hd11, hb11⟩
  have hs11 := hb11.size
  have fA := fA.below hb11
  have fB := fB.below hb11
  have gXA := gXA.below hb11
  have gXB := gXB.below hb11
  have hB11 := hB10.trans (hb11.mono hB10.size)
  have gcB1 : POwn w10.heap.size w11.heap.size w11 ra11 nB lB := ho11
  clear ho11
  go_wp2_with fail
  go_at_call 11
  refine (eq_parts _ _ _ _ _ ra7 ra11 nB _ _ lB gXB.row gcB1.row (by omega) (by omega) (by omega)).mono ?_
  rintro e w12 ⟨rfl, hb12⟩
  clear gcB1
  have hs12 := hb12.size
  have fA := fA.below hb12
  have fB := fB.below hb12
  have gXA := gXA.below hb12
  have gXB := gXB.below hb12
  have hB12 := hB11.trans (hb12.mono hB11.size)
  go_wp2
  go_ret
  exact ⟨rfl, hB12⟩
end Go.Proofs.Ytedjclnojocjkaa.FnExactEqualStoresW
