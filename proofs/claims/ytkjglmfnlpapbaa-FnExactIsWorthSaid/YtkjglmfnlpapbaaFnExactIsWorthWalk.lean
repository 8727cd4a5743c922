/-
  The law FnExactIsWorth returns true, and leaves what was there as it was.
  Conditions: the arguments can be read.
-/
import Derived.Test.YtkjglmfnlpapbaaPieceI
import Derived.Test.YtkjglmfnlpapbaaPiecesOf
import Derived.Test.YtkjglmfnlpapbaaPcCopy
import Derived.Test.YtkjglmfnlpapbaaPcMark
namespace Go.Proofs.Ytkjglmfnlpapbaa.FnExactIsWorthW
open Go Go.RowKit Go.Proofs.Ytkjglmfnlpapbaa.Mem Go.Proofs.Ytkjglmfnlpapbaa.Adr Go.Proofs.Ytkjglmfnlpapbaa.Res Go.Proofs.Ytkjglmfnlpapbaa.Pieces
set_option linter.unusedVariables false

set_option maxHeartbeats 4000000 in
set_option maxRecDepth 100000 in
theorem law_walk (zA : List Int) (aA : Option Addr) (nA cA : Nat) (zB : List Int) (aB : Option Addr) (nB cB : Nat) (w : World) (rA : Row .i64 0 w.heap.size w aA nA zA) (bA : (nA : Int) ≤ 9223372036854775807) (rB : Row .i64 0 w.heap.size w aB nB zB) (bB : (nB : Int) ≤ 9223372036854775807) :
    Calls Try.prog 7 #[.slice aA nA cA, .slice aB nB cB] w fun e w' => e = .returned (.bool true) ∧ Below w.heap.size w w' := by
  by_cases kA : nA ≤ 1048576
  rotate_left
  · have kA' : decide ((nA : Int) > 1048576) = true := by simp; omega
    have kA'' : decide ((1048576 : Int) < nA) = true := by simp; omega
    go_enter Try.func7, Try.ntmps7
    go_wp2
    go_ret
    exact ⟨rfl, Below.refl _ _⟩
  have dA : decide ((nA : Int) > 1048576) = false := by simp; omega
  have dA' : decide ((1048576 : Int) < nA) = false := by simp; omega
  have rmA : nA ≤ 1048576 := kA
  by_cases kB : nB ≤ 1048576
  rotate_left
  · have kB' : decide ((nB : Int) > 1048576) = true := by simp; omega
    have kB'' : decide ((1048576 : Int) < nB) = true := by simp; omega
    go_enter Try.func7, Try.ntmps7
    go_wp2
    go_ret
    exact ⟨rfl, Below.refl _ _⟩
  have dB : decide ((nB : Int) > 1048576) = false := by simp; omega
  have dB' : decide ((1048576 : Int) < nB) = false := by simp; omega
  have rmB : nB ≤ 1048576 := kB
  obtain ⟨R, hR⟩ : ∃ R, worthB zA zB = R := ⟨_, rfl⟩
  have hS : ∀ (W : World) (loA hiA : Nat) (aA' : Option Addr) (cA' : Nat) (loB hiB : Nat) (aB' : Option Addr) (cB' : Nat), Row .i64 loA hiA W aA' nA zA → hiA ≤ W.heap.size → Row .i64 loB hiB W aB' nB zB → hiB ≤ W.heap.size → nA ≤ cA' → nB ≤ cB' → Calls Try.prog 28 #[.slice aA' nA cA', .slice aB' nB cB'] W (fun e w' => e = .returned (.bool R) ∧ Below W.heap.size W w') := by
    intro W loA hiA aA' cA' loB hiB aB' cB' gA gA' gB gB' tA tB
    rw [← hR]
    exact worth_spec loA hiA loB hiB W aA' nA cA' zA aB' nB cB' zB gA gB tB rmA rmB
  have hI : ∀ (W : World) (loA hiA : Nat) (aA' : Option Addr) (cA' : Nat) (loB hiB : Nat) (aB' : Option Addr) (cB' : Nat), Row .i64 loA hiA W aA' nA zA → hiA ≤ W.heap.size → Row .i64 loB hiB W aB' nB zB → hiB ≤ W.heap.size → nA ≤ cA' → nB ≤ cB' → Calls Try.prog 14 #[.slice aA' nA cA', .slice aB' nB cB'] W (fun e w' => e = .returned (.bool R) ∧ Below W.heap.size W w') := by
    intro W loA hiA aA' cA' loB hiB aB' cB' gA gA' gB gB' tA tB
    rw [← hR]
    exact worth_impl loA hiA loB hiB W aA' nA cA' zA aB' nB cB' zB gA gA' gB gB' tA tB rmA rmB
  have hB0 : Below w.heap.size w w := Below.refl _ _
  have hs0 : w.heap.size ≤ w.heap.size := Nat.le_refl _
  have fA := rA
  have fB := rB
  go_enter Try.func7, Try.ntmps7
  go_wp2_with fail
  go_at_call 17
  refine (Nts.to_any 0 w.heap.size _ aA nA cA zA fA hB0.size (by omega)).mono ?_
  rintro e w1 ⟨ra1, rc1, rfl, ho1, hc1, hd1, hb1⟩
  have hs1 : w.heap.size ≤ w1.heap.size := hb1.size
  have fA := fA.below hb1
  have fB := fB.below hb1
  have hB1 := hB0.trans (hb1.mono hB0.size)
  have gmA := ho1
  clear ho1
  go_wp2_with fail
  go_at_call 17
  refine (Nts.to_any 0 w.heap.size _ aB nB cB zB fB hB1.size (by omega)).mono ?_
  rintro e w2 ⟨ra2, rc2, rfl, ho2, hc2, hd2, hb2⟩
  have hs2 : w1.heap.size ≤ w2.heap.size := hb2.size
  have fA := fA.below hb2
  have fB := fB.below hb2
  have gmA := gmA.below hb2
  have hB2 := hB1.trans (hb2.mono hB1.size)
  have gmB := ho2
  clear ho2
  go_wp2_with fail
  go_at_call 28
  refine (hS _ _ _ _ _ _ _ _ _ gmA.row (by omega) gmB.row (by omega) hc1 hc2).mono ?_
  rintro e w3 ⟨rfl, hb3⟩
  have hs3 : w2.heap.size ≤ w3.heap.size := hb3.size
  have fA := fA.below hb3
  have fB := fB.below hb3
  have gmA := gmA.below hb3
  have gmB := gmB.below hb3
  have hB3 := hB2.trans (hb3.mono hB2.size)
  clear gmA
  clear gmB
  go_wp2_with fail
  go_at_call 17
  refine (Nts.to_any 0 w.heap.size _ aA nA cA zA fA hB3.size (by omega)).mono ?_
  rintro e w4 ⟨ra4, rc4, rfl, ho4, hc4, hd4, hb4⟩
  have hs4 : w3.heap.size ≤ w4.heap.size := hb4.size
  have fA := fA.below hb4
  have fB := fB.below hb4
  have hB4 := hB3.trans (hb4.mono hB3.size)
  have gxA := ho4
  clear ho4
  go_wp2_with fail
  go_at_call 17
  refine (Nts.to_any 0 w.heap.size _ aB nB cB zB fB hB4.size (by omega)).mono ?_
  rintro e w5 ⟨ra5, rc5, rfl, ho5, hc5, hd5, hb5⟩
  have hs5 : w4.heap.size ≤ w5.heap.size := hb5.size
  have fA := fA.below hb5
  have fB := fB.below hb5
  have gxA := gxA.below hb5
  have hB5 := hB4.trans (hb5.mono hB4.size)
  have gxB := ho5
  clear ho5
  go_wp2_with fail
  go_at_call 14
  refine (hI _ _ _ _ _ _ _ _ _ gxA.row (by omega) gxB.row (by omega) hc4 hc5).mono ?_
  rintro e w6 ⟨rfl, hb6⟩
  have hs6 : w5.heap.size ≤ w6.heap.size := hb6.size
  have fA := fA.below hb6
  have fB := fB.below hb6
  have gxA := gxA.below hb6
  have gxB := gxB.below hb6
  have hB6 := hB5.trans (hb6.mono hB5.size)
  go_wp2_with fail
  go_at_call 17
  refine (Nts.to_any 0 w.heap.size _ aA nA cA zA fA hB6.size (by omega)).mono ?_
  rintro e w7 ⟨ra7, rc7, rfl, ho7, hc7, hd7, hb7⟩
  have hs7 : w6.heap.size ≤ w7.heap.size := hb7.size
  have fA := fA.below hb7
  have fB := fB.below hb7
  have gxA := gxA.below hb7
  have gxB := gxB.below hb7
  have hB7 := hB6.trans (hb7.mono hB6.size)
  have gyA := ho7
  clear ho7
  go_wp2_with fail
  go_at_call 19
  refine (Nts.eq_same _ _ _ _ _ ra4 ra7 nA _ _ zA gxA.row gyA.row (by omega)).mono ?_
  rintro e w8 ⟨rfl, m8, hw8⟩
  have hb8 : Below w7.heap.size w7 w8 := by rw [hw8]; exact Mem.below_drewN (Below.refl _ _) _
  clear hw8
  have hs8 : w7.heap.size ≤ w8.heap.size := hb8.size
  have fA := fA.below hb8
  have fB := fB.below hb8
  have gxA := gxA.below hb8
  have gxB := gxB.below hb8
  have gyA := gyA.below hb8
  have hB8 := hB7.trans (hb8.mono hB7.size)
  clear gyA
  go_wp2_with fail
  go_at_call 17
  refine (Nts.to_any 0 w.heap.size _ aB nB cB zB fB hB8.size (by omega)).mono ?_
  rintro e w9 ⟨ra9, rc9, rfl, ho9, hc9, hd9, hb9⟩
  have hs9 : w8.heap.size ≤ w9.heap.size := hb9.size
  have fA := fA.below hb9
  have fB := fB.below hb9
  have gxA := gxA.below hb9
  have gxB := gxB.below hb9
  have hB9 := hB8.trans (hb9.mono hB8.size)
  have gyB := ho9
  clear ho9
  go_wp2_with fail
  go_at_call 19
  refine (Nts.eq_same _ _ _ _ _ ra5 ra9 nB _ _ zB gxB.row gyB.row (by omega)).mono ?_
  rintro e w10 ⟨rfl, m10, hw10⟩
  have hb10 : Below w9.heap.size w9 w10 := by rw [hw10]; exact Mem.below_drewN (Below.refl _ _) _
  clear hw10
  have hs10 : w9.heap.size ≤ w10.heap.size := hb10.size
  have fA := fA.below hb10
  have fB := fB.below hb10
  have gxA := gxA.below hb10
  have gxB := gxB.below hb10
  have gyB := gyB.below hb10
  have hB10 := hB9.trans (hb10.mono hB9.size)
  clear gyB
  go_wp2
  go_ret
  exact ⟨rfl, hB10⟩
end Go.Proofs.Ytkjglmfnlpapbaa.FnExactIsWorthW
