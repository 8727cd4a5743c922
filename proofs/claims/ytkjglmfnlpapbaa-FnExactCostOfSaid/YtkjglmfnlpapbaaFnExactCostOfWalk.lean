/-
  The law FnExactCostOf returns true, and leaves what was there as it was.
  Conditions: the arguments can be read.
-/
import Derived.Test.YtkjglmfnlpapbaaPieceI
import Derived.Test.YtkjglmfnlpapbaaPiecesOf
import Derived.Test.YtkjglmfnlpapbaaPcCopy
import Derived.Test.YtkjglmfnlpapbaaPcMark
namespace Go.Proofs.Ytkjglmfnlpapbaa.FnExactCostOfW
open Go Go.RowKit Go.Proofs.Ytkjglmfnlpapbaa.Mem Go.Proofs.Ytkjglmfnlpapbaa.Adr Go.Proofs.Ytkjglmfnlpapbaa.Res Go.Proofs.Ytkjglmfnlpapbaa.Pieces
set_option linter.unusedVariables false

set_option maxHeartbeats 4000000 in
set_option maxRecDepth 100000 in
theorem law_walk (lA : List Pc) (aA : Option Addr) (nA cA : Nat) (w : World) (rA : CRow 0 w.heap.size w aA nA lA) (bA : (nA : Int) ≤ 9223372036854775807) :
    Calls Try.prog 6 #[.slice aA nA cA] w fun e w' => e = .returned (.bool true) ∧ Below w.heap.size w w' := by
  by_cases eA : (room lA : Int) ≤ 1048576
  rotate_left
  · have hB0 : Below w.heap.size w w := Below.refl _ _
    have hs0 : w.heap.size ≤ w.heap.size := Nat.le_refl _
    have fA := rA
    go_enter Try.func6, Try.ntmps6
    go_wp2_with fail
    go_at_call 23
    refine (sz_pieces 0 w.heap.size _ aA nA cA lA fA hB0.size 1048576 bA (by omega) (by omega)).mono ?_
    rintro e w1 ⟨rfl, hb1⟩
    rw [if_neg (show ¬ ((room lA : Int) ≤ 1048576) by omega)]
    have hs1 : w.heap.size ≤ w1.heap.size := hb1.size
    have fA := fA.below hb1
    have hB1 := hB0.trans (hb1.mono hB0.size)
    go_wp2
    go_ret
    exact ⟨rfl, hB1⟩
  have rmA : room lA ≤ 1048576 := by omega
  obtain ⟨LA, hLA⟩ : ∃ L : Int, L = 1048576 - (room lA : Int) := ⟨_, rfl⟩
  have glA : 0 ≤ LA := by omega
  have HLA := Lib.hid hLA
  clear hLA
  have zlA := rA.len
  have zqA := room_eq lA
  obtain ⟨R, hR⟩ : ∃ R : Int, (room lA : Int) = R := ⟨_, rfl⟩
  have hS : ∀ (W : World) (loA hiA : Nat) (aA' : Option Addr) (cA' : Nat), CRow loA hiA W aA' nA lA → hiA ≤ W.heap.size → nA ≤ cA' → Calls Try.prog 27 #[.slice aA' nA cA'] W (fun e w' => e = .returned (.int .i64 R) ∧ Below W.heap.size W w') := by
    intro W loA hiA aA' cA' gA gA' tA
    rw [← hR]
    exact (cost_spec loA hiA W aA' nA cA' lA gA rmA).mono fun _ _ h => ⟨h.1, by rw [h.2]; exact Below.refl _ _⟩
  have hI : ∀ (W : World) (loA hiA : Nat) (aA' : Option Addr) (cA' : Nat), CRow loA hiA W aA' nA lA → hiA ≤ W.heap.size → nA ≤ cA' → Calls Try.prog 13 #[.slice aA' nA cA'] W (fun e w' => e = .returned (.int .i64 R) ∧ Below W.heap.size W w') := by
    intro W loA hiA aA' cA' gA gA' tA
    rw [← hR]
    exact cost_impl loA hiA W aA' nA cA' lA gA gA' rmA
  have hB0 : Below w.heap.size w w := Below.refl _ _
  have hs0 : w.heap.size ≤ w.heap.size := Nat.le_refl _
  have fA := rA
  go_enter Try.func6, Try.ntmps6
  go_wp2_with fail
  go_at_call 23
  refine (sz_pieces 0 w.heap.size _ aA nA cA lA fA hB0.size 1048576 bA (by omega) (by omega)).mono ?_
  rintro e w1 ⟨rfl, hb1⟩
  rw [if_pos eA, ← HLA.out]
  have dzA : decide (LA < 0) = false := by simp; omega
  have hs1 : w.heap.size ≤ w1.heap.size := hb1.size
  have fA := fA.below hb1
  have hB1 := hB0.trans (hb1.mono hB0.size)
  go_wp2_with fail
  go_at_call 25
  refine (to_pieces 0 w.heap.size _ aA nA cA lA fA hB1.size (by omega)).mono ?_
  rintro e w2 ⟨ra2, rc2, rfl, ho2, hc2, hd2, hb2⟩
  have hs2 : w1.heap.size ≤ w2.heap.size := hb2.size
  have fA := fA.below hb2
  have hB2 := hB1.trans (hb2.mono hB1.size)
  have gmA := ho2
  clear ho2
  go_wp2_with fail
  go_at_call 27
  refine (hS _ _ _ _ _ gmA.row (by omega) hc2).mono ?_
  rintro e w3 ⟨rfl, hb3⟩
  have hs3 : w2.heap.size ≤ w3.heap.size := hb3.size
  have fA := fA.below hb3
  have gmA := gmA.below hb3
  have hB3 := hB2.trans (hb3.mono hB2.size)
  clear gmA
  go_wp2_with fail
  go_at_call 25
  refine (to_pieces 0 w.heap.size _ aA nA cA lA fA hB3.size (by omega)).mono ?_
  rintro e w4 ⟨ra4, rc4, rfl, ho4, hc4, hd4, hb4⟩
  have hs4 : w3.heap.size ≤ w4.heap.size := hb4.size
  have fA := fA.below hb4
  have hB4 := hB3.trans (hb4.mono hB3.size)
  have gxA := ho4
  clear ho4
  go_wp2_with fail
  go_at_call 13
  refine (hI _ _ _ _ _ gxA.row (by omega) hc4).mono ?_
  rintro e w5 ⟨rfl, hb5⟩
  have hs5 : w4.heap.size ≤ w5.heap.size := hb5.size
  have fA := fA.below hb5
  have gxA := gxA.below hb5
  have hB5 := hB4.trans (hb5.mono hB4.size)
  go_wp2_with fail
  go_at_call 25
  refine (to_pieces 0 w.heap.size _ aA nA cA lA fA hB5.size (by omega)).mono ?_
  rintro e w6 ⟨ra6, rc6, rfl, ho6, hc6, hd6, hb6⟩
  have hs6 : w5.heap.size ≤ w6.heap.size := hb6.size
  have fA := fA.below hb6
  have gxA := gxA.below hb6
  have hB6 := hB5.trans (hb6.mono hB5.size)
  have gyA := ho6
  clear ho6
  go_wp2_with fail
  go_at_call 18
  refine (eq_pieces _ _ _ _ _ ra4 ra6 nA _ _ lA gxA.row gyA.row (by omega) (by omega) (by omega)).mono ?_
  rintro e w7 ⟨rfl, hb7⟩
  have hs7 : w6.heap.size ≤ w7.heap.size := hb7.size
  have fA := fA.below hb7
  have gxA := gxA.below hb7
  have gyA := gyA.below hb7
  have hB7 := hB6.trans (hb7.mono hB6.size)
  clear gyA
  go_wp2
  go_ret
  exact ⟨rfl, hB7⟩
end Go.Proofs.Ytkjglmfnlpapbaa.FnExactCostOfW
