/-
  The law FnExactIsStore returns true, and leaves what was there as it was.
  Conditions: the arguments can be read.
-/
import Derived.Test.YtedjclnojocjkaaDoorStoreI
import Derived.Test.YtedjclnojocjkaaDoorPtsSz
import Derived.Test.YtedjclnojocjkaaDoorPtsCopy
namespace Go.Proofs.YtedjclnojocjkaaDoor.FnExactIsStoreW
open Go Go.RowKit Go.Proofs.YtedjclnojocjkaaDoor.Mem Go.Proofs.YtedjclnojocjkaaDoor.Adr Go.Proofs.YtedjclnojocjkaaDoor.Res Go.Proofs.YtedjclnojocjkaaDoor.Parts
set_option linter.unusedVariables false

set_option maxHeartbeats 4000000 in
set_option maxRecDepth 100000 in
theorem law_walk (lA : List Prt) (aA : Option Addr) (nA cA : Nat) (w : World) (rA : PRow 0 w.heap.size w aA nA lA) (bA : (nA : Int) ≤ 9223372036854775807) (a0 : Addr) (hN : NoStore a0 w) :
    Calls Tryd.prog 3 #[.slice aA nA cA] w fun e w' => e = .returned (.bool true) ∧ Below w.heap.size w w' := by
  by_cases eA : (room lA : Int) ≤ 1048576
  rotate_left
  · have hB0 : Below w.heap.size w w := Below.refl _ _
    have hs0 : w.heap.size ≤ w.heap.size := Nat.le_refl _
    have fA := rA.below hB0
    have glhN : 0 < w.heap.size := Mem.cell_lt hN
    have hN := hN.below hB0
    go_enter Tryd.func3, Tryd.ntmps3
    go_wp2_with fail
    go_at_call 5
    refine (sz_parts 0 w.heap.size _ aA nA cA lA fA hB0.size 1048576 bA (by omega) (by omega)).mono ?_
    rintro e w1 ⟨rfl, hb1⟩
    rw [if_neg (show ¬ ((room lA : Int) ≤ 1048576) by omega)]
    have hs1 := hb1.size
    have fA := fA.below hb1
    have hN := hN.below hb1
    have hB1 := hB0.trans (hb1.mono hB0.size)
    go_wp2
    go_ret
    exact ⟨rfl, hB1⟩
  obtain ⟨LA, hLA⟩ : ∃ L : Int, L = 1048576 - (room lA : Int) := ⟨_, rfl⟩
  have glA : 0 ≤ LA := by omega
  have gmA : LA ≤ 1048576 := by omega
  have rmA : room lA ≤ 1048576 := by omega
  have HLA := Lib.hid hLA
  clear hLA
  obtain ⟨R, hR⟩ : ∃ R, storeB lA = R := ⟨_, rfl⟩
  have hS : ∀ (W : World) (loA hiA : Nat) (aA' : Option Addr) (cA' : Nat), PRow loA hiA W aA' nA lA → hiA ≤ W.heap.size → Calls Tryd.prog 6 #[.slice aA' nA cA'] W (fun e w' => e = .returned (.bool R) ∧ Below W.heap.size W w') := by
    intro W loA hiA aA' cA' gA gA'
    rw [← hR]
    exact store_spec loA hiA W aA' nA cA' lA gA gA' rmA
  have hI : ∀ (W : World) (loA hiA : Nat) (aA' : Option Addr) (cA' : Nat), PRow loA hiA W aA' nA lA → hiA ≤ W.heap.size → NoStore a0 W → Calls Tryd.prog 8 #[.slice aA' nA cA'] W (fun e w' => e = .returned (.bool R) ∧ Below W.heap.size W w') := by
    intro W loA hiA aA' cA' gA gA' hN'
    rw [← hR]
    exact store_impl loA hiA W aA' nA cA' lA a0 gA gA' rmA hN'
  have zqA := room_eq lA
  have zlA := rA.len
  have hB0 : Below w.heap.size w w := Below.refl _ _
  have hs0 : w.heap.size ≤ w.heap.size := Nat.le_refl _
  have fA := rA.below hB0
  have glhN : 0 < w.heap.size := Mem.cell_lt hN
  have hN := hN.below hB0
  go_enter Tryd.func3, Tryd.ntmps3
  go_wp2_with fail
  go_at_call 5
  refine (sz_parts 0 w.heap.size _ aA nA cA lA fA hB0.size 1048576 bA (by omega) (by omega)).mono ?_
  rintro e w1 ⟨rfl, hb1⟩
  rw [if_pos eA, ← HLA.out]
  have dA : decide (LA < 0) = false := by simp; omega
  have hs1 := hb1.size
  have fA := fA.below hb1
  have hN := hN.below hb1
  have hB1 := hB0.trans (hb1.mono hB0.size)
  go_wp2_with fail
  go_at_call 7
  refine (to_parts 0 w.heap.size _ aA nA cA lA fA hB1.size (by omega)).mono ?_
  rintro e w2 ⟨ra2, rc2, rfl, ho2, hc2, hd2, hb2⟩
  have hs2 := hb2.size
  have fA := fA.below hb2
  have hN := hN.below hb2
  have hB2 := hB1.trans (hb2.mono hB1.size)
  have gMA : POwn w1.heap.size w2.heap.size w2 ra2 nA lA := ho2
  clear ho2
  go_wp2_with fail
  go_at_call 6
  refine (hS _ _ _ _ _ gMA.row (by omega)).mono ?_
  rintro e w3 ⟨rfl, hb3⟩
  have hs3 := hb3.size
  have fA := fA.below hb3
  have hN := hN.below hb3
  have hB3 := hB2.trans (hb3.mono hB2.size)
  clear hS gMA
  go_wp2_with fail
  go_at_call 7
  refine (to_parts 0 w.heap.size _ aA nA cA lA fA hB3.size (by omega)).mono ?_
  rintro e w4 ⟨ra4, rc4, rfl, ho4, hc4, hd4, hb4⟩
  have hs4 := hb4.size
  have fA := fA.below hb4
  have hN := hN.below hb4
  have hB4 := hB3.trans (hb4.mono hB3.size)
  have gXA : POwn w3.heap.size w4.heap.size w4 ra4 nA lA := ho4
  clear ho4
  go_wp2_with fail
  go_at_call 8
  refine (hI _ _ _ _ _ gXA.row (by omega) hN).mono ?_
  rintro e w5 ⟨rfl, hb5⟩
  have hs5 := hb5.size
  have fA := fA.below hb5
  have hN := hN.below hb5
  have gXA := gXA.below hb5
  have hB5 := hB4.trans (hb5.mono hB4.size)
  go_wp2_with fail
  go_at_call 7
  refine (to_parts 0 w.heap.size _ aA nA cA lA fA hB5.size (by omega)).mono ?_
  rintro e w6 ⟨ra6, rc6, rfl, ho6, hc6, hd6, hb6⟩
  have hs6 := hb6.size
  have fA := fA.below hb6
  have hN := hN.below hb6
  have gXA := gXA.below hb6
  have hB6 := hB5.trans (hb6.mono hB5.size)
  have gcA0 : POwn w5.heap.size w6.heap.size w6 ra6 nA lA := ho6
  clear ho6
  go_wp2_with fail
  go_at_call 9
  refine (eq_parts _ _ _ _ _ ra4 ra6 nA _ _ lA gXA.row gcA0.row (by omega) (by omega) (by omega)).mono ?_
  rintro e w7 ⟨rfl, hb7⟩
  clear gcA0
  have hs7 := hb7.size
  have fA := fA.below hb7
  have hN := hN.below hb7
  have gXA := gXA.below hb7
  have hB7 := hB6.trans (hb7.mono hB6.size)
  go_wp2
  go_ret
  exact ⟨rfl, hB7⟩
end Go.Proofs.YtedjclnojocjkaaDoor.FnExactIsStoreW
