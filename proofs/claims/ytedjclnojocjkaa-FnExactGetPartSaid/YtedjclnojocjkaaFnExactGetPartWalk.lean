/-
  The law FnExactGetPart returns true, and leaves what was there as it was.
  Conditions: the arguments can be read.
-/
import Derived.Test.YtedjclnojocjkaaGet
import Derived.Test.YtedjclnojocjkaaPtsSz
import Derived.Test.YtedjclnojocjkaaPtsCopy
import Derived.Test.YtedjclnojocjkaaHeld
namespace Go.Proofs.Ytedjclnojocjkaa.FnExactGetPartW
open Go Go.RowKit Go.Proofs.Ytedjclnojocjkaa.Mem Go.Proofs.Ytedjclnojocjkaa.Adr Go.Proofs.Ytedjclnojocjkaa.Res Go.Proofs.Ytedjclnojocjkaa.Parts
set_option linter.unusedVariables false

set_option maxHeartbeats 4000000 in
set_option maxRecDepth 100000 in
theorem law_walk (lA : List Prt) (aA : Option Addr) (nA cA : Nat) (xD : Int) (w : World) (rA : PRow 0 w.heap.size w aA nA lA) (bA : (nA : Int) ≤ 9223372036854775807) (wD : (Lit.int .i64 xD).wf = true) :
    Calls Try.prog 3 #[.slice aA nA cA, .int .i64 xD] w fun e w' => e = .returned (.bool true) ∧ Below w.heap.size w w' := by
  by_cases eA : (room lA : Int) ≤ 1048576
  rotate_left
  · have hB0 : Below w.heap.size w w := Below.refl _ _
    have hs0 : w.heap.size ≤ w.heap.size := Nat.le_refl _
    have fA := rA.below hB0
    go_enter Try.func3, Try.ntmps3
    go_wp2_with fail
    go_at_call 6
    refine (sz_parts 0 w.heap.size _ aA nA cA lA fA hB0.size 1048576 bA (by omega) (by omega)).mono ?_
    rintro e w1 ⟨rfl, hb1⟩
    rw [if_neg (show ¬ ((room lA : Int) ≤ 1048576) by omega)]
    have hs1 := hb1.size
    have fA := fA.below hb1
    have hB1 := hB0.trans (hb1.mono hB0.size)
    go_wp2
    go_ret
    exact ⟨rfl, hB1⟩
  obtain ⟨LA, hLA⟩ : ∃ L : Int, L = 1048576 - (room lA : Int) := ⟨_, rfl⟩
  have glA : 0 ≤ LA := by omega
  have gmA : LA ≤ 1048576 := by omega
  have rmA : room lA ≤ 1048576 := by omega
  have HLA := Lib.hid hLA
  clear hLA
  obtain ⟨P, hP⟩ : ∃ P, pt lA (fnd xD lA) = P := ⟨_, rfl⟩
  obtain ⟨B, hBB⟩ : ∃ B, decide (fnd xD lA < lA.length) = B := ⟨_, rfl⟩
  have zP : P.zs.length ≤ 1048576 := by rw [← hP]; exact (rA.room_at rmA).2 _
  have hS : ∀ (W : World) (loA hiA : Nat) (aA' : Option Addr) (cA' : Nat), PRow loA hiA W aA' nA lA → hiA ≤ W.heap.size → Calls Try.prog 7 #[.slice aA' nA cA', .int .i64 xD] W (Got W.heap.size P B W) := by
    intro W loA hiA aA' cA' gA gA'
    rw [← hP, ← hBB]
    exact get_spec loA hiA W aA' nA cA' lA gA gA' xD rmA
  have hI : ∀ (W : World) (loA hiA : Nat) (aA' : Option Addr) (cA' : Nat), PRow loA hiA W aA' nA lA → hiA ≤ W.heap.size → Calls Try.prog 9 #[.slice aA' nA cA', .int .i64 xD] W (Got W.heap.size P B W) := by
    intro W loA hiA aA' cA' gA gA'
    rw [← hP, ← hBB]
    exact get_impl loA hiA W aA' nA cA' lA gA gA' xD rmA
  have zqA := room_eq lA
  have zlA := rA.len
  have hB0 : Below w.heap.size w w := Below.refl _ _
  have hs0 : w.heap.size ≤ w.heap.size := Nat.le_refl _
  have fA := rA.below hB0
  go_enter Try.func3, Try.ntmps3
  go_wp2_with fail
  go_at_call 6
  refine (sz_parts 0 w.heap.size _ aA nA cA lA fA hB0.size 1048576 bA (by omega) (by omega)).mono ?_
  rintro e w1 ⟨rfl, hb1⟩
  rw [if_pos eA, ← HLA.out]
  have dA : decide (LA < 0) = false := by simp; omega
  have hs1 := hb1.size
  have fA := fA.below hb1
  have hB1 := hB0.trans (hb1.mono hB0.size)
  go_wp2_with fail
  go_at_call 8
  refine (to_parts 0 w.heap.size _ aA nA cA lA fA hB1.size (by omega)).mono ?_
  rintro e w2 ⟨ra2, rc2, rfl, ho2, hc2, hd2, hb2⟩
  have hs2 := hb2.size
  have fA := fA.below hb2
  have hB2 := hB1.trans (hb2.mono hB1.size)
  have gMA : POwn w1.heap.size w2.heap.size w2 ra2 nA lA := ho2
  clear ho2
  go_wp2_with fail
  go_at_call 7
  refine (hS _ _ _ _ _ gMA.row (by omega)).mono ?_
  rintro e w3 ⟨ra3, rc3, rfl, ho3, hc3, hd3, hb3⟩
  have hs3 := hb3.size
  have fA := fA.below hb3
  have hB3 := hB2.trans (hb3.mono hB2.size)
  clear hS gMA
  have gW : Own .i64 w2.heap.size w3.heap.size w3 ra3 P.zs.length P.zs := ho3
  clear ho3
  have hA3 : Below w3.heap.size w3 (w3.alloc (.cells #[.int .i64 P.k, .slice ra3 P.zs.length rc3, .int .i64 P.h, .int .i64 P.p, .int .i64 P.q] 28)) := (Below.refl _ _).alloc (Nat.le_refl _) _
  have fA := fA.below hA3
  have gW := gW.below hA3
  have QW := Quint.new 28 (.int .i64 P.k) (.slice ra3 P.zs.length rc3) (.int .i64 P.h) (.int .i64 P.p) (.int .i64 P.q) w3
  have hBy := hB3.trans (hA3.mono hB3.size)
  clear hB3; have hB3 := hBy; clear hBy
  have hz3A : (w3.alloc (.cells #[.int .i64 P.k, .slice ra3 P.zs.length rc3, .int .i64 P.h, .int .i64 P.p, .int .i64 P.q] 28)).heap.size = w3.heap.size + 1 := size_alloc _ _
  go_wp2_with fail
  go_at_call 8
  refine (to_parts 0 w.heap.size _ aA nA cA lA fA hB3.size (by omega)).mono ?_
  rintro e w4 ⟨ra4, rc4, rfl, ho4, hc4, hd4, hb4⟩
  have hs4 := hb4.size
  have fA := fA.below hb4
  have gW := gW.below hb4
  have QW := QW.below hb4
  have hB4 := hB3.trans (hb4.mono hB3.size)
  have gXA : POwn (w3.alloc (.cells #[.int .i64 P.k, .slice ra3 P.zs.length rc3, .int .i64 P.h, .int .i64 P.p, .int .i64 P.q] 28)).heap.size w4.heap.size w4 ra4 nA lA := ho4
  clear ho4
  go_wp2_with fail
  go_at_call 9
  refine (hI _ _ _ _ _ gXA.row (by omega)).mono ?_
  rintro e w5 ⟨ra5, rc5, rfl, ho5, hc5, hd5, hb5⟩
  have hs5 := hb5.size
  have fA := fA.below hb5
  have gW := gW.below hb5
  have QW := QW.below hb5
  have gXA := gXA.below hb5
  have hB5 := hB4.trans (hb5.mono hB4.size)
  have gG : Own .i64 w4.heap.size w5.heap.size w5 ra5 P.zs.length P.zs := ho5
  clear ho5
  have hA5 : Below w5.heap.size w5 (w5.alloc (.cells #[.int .i64 P.k, .slice ra5 P.zs.length rc5, .int .i64 P.h, .int .i64 P.p, .int .i64 P.q] 28)) := (Below.refl _ _).alloc (Nat.le_refl _) _
  have fA := fA.below hA5
  have gW := gW.below hA5
  have QW := QW.below hA5
  have gXA := gXA.below hA5
  have gG := gG.below hA5
  have QG := Quint.new 28 (.int .i64 P.k) (.slice ra5 P.zs.length rc5) (.int .i64 P.h) (.int .i64 P.p) (.int .i64 P.q) w5
  have hBy := hB5.trans (hA5.mono hB5.size)
  clear hB5; have hB5 := hBy; clear hBy
  have hz5A : (w5.alloc (.cells #[.int .i64 P.k, .slice ra5 P.zs.length rc5, .int .i64 P.h, .int .i64 P.p, .int .i64 P.q] 28)).heap.size = w5.heap.size + 1 := size_alloc _ _
  obtain ⟨qg_6_0, qg_6_1, qg_6_2, qg_6_3, qg_6_4⟩ := QG.cells
  obtain ⟨qw_6_0, qw_6_1, qw_6_2, qw_6_3, qw_6_4⟩ := QW.cells
  go_wp2_with fail
  go_at_call 10
  refine (eq_res _ _ _ _ P.k P.h P.p P.q _ _ _ P.zs.length _ _ P.zs gG.row gW.row (by omega)).mono ?_
  rintro e w6 ⟨rfl, hb6⟩
  clear qg_6_0 qg_6_1 qg_6_2 qg_6_3 qg_6_4 qw_6_0 qw_6_1 qw_6_2 qw_6_3 qw_6_4
  have hs6 := hb6.size
  have fA := fA.below hb6
  have gW := gW.below hb6
  have QW := QW.below hb6
  have gXA := gXA.below hb6
  have gG := gG.below hb6
  have QG := QG.below hb6
  have hB6 := hB5.trans (hb6.mono hB5.size)
  go_wp2_with fail
  go_at_call 8
  refine (to_parts 0 w.heap.size _ aA nA cA lA fA hB6.size (by omega)).mono ?_
  rintro e w7 ⟨ra7, rc7, rfl, ho7, hc7, hd7, hb7⟩
  have hs7 := hb7.size
  have fA := fA.below hb7
  have gW := gW.below hb7
  have QW := QW.below hb7
  have gXA := gXA.below hb7
  have gG := gG.below hb7
  have QG := QG.below hb7
  have hB7 := hB6.trans (hb7.mono hB6.size)
  have gcA0 : POwn w6.heap.size w7.heap.size w7 ra7 nA lA := ho7
  clear ho7
  go_wp2_with fail
  go_at_call 11
  refine (eq_parts _ _ _ _ _ ra4 ra7 nA _ _ lA gXA.row gcA0.row (by omega) (by omega) (by omega)).mono ?_
  rintro e w8 ⟨rfl, hb8⟩
  clear gcA0
  have hs8 := hb8.size
  have fA := fA.below hb8
  have gW := gW.below hb8
  have QW := QW.below hb8
  have gXA := gXA.below hb8
  have gG := gG.below hb8
  have QG := QG.below hb8
  have hB8 := hB7.trans (hb8.mono hB7.size)
  go_wp2_with fail
  go_at_call 12
  refine (mark_parts (w3.alloc (.cells #[.int .i64 P.k, .slice ra3 P.zs.length rc3, .int .i64 P.h, .int .i64 P.p, .int .i64 P.q] 28)).heap.size w4.heap.size 1 _ ra4 nA _ lA gXA (by omega)).mono ?_
  rintro e w9 ⟨rfl, ho9, hz9⟩
  clear gXA ho9
  have hs9 := hz9.size
  have fA := fA.zone hz9 (by omega)
  have gW := gW.zone hz9 (by omega)
  have QW := QW.zone hz9 (by omega)
  have gG := gG.zone hz9 (by omega)
  have QG := QG.zone hz9 (by omega)
  have hB9 := hB8.trans (hz9.below (by omega) hB8.size)
  obtain ⟨K, hK⟩ : ∃ K : Int, K = ((1 + 6 * nA + bodies lA : Nat) : Int) := ⟨_, rfl⟩
  rw [← hK]
  have dK : decide (K < 0) = false := by simp; omega
  obtain ⟨qg_10_0, qg_10_1, qg_10_2, qg_10_3, qg_10_4⟩ := QG.cells
  obtain ⟨qw_10_0, qw_10_1, qw_10_2, qw_10_3, qw_10_4⟩ := QW.cells
  go_wp2_with fail
  go_at_call 10
  refine (eq_res _ _ _ _ P.k P.h P.p P.q _ _ _ P.zs.length _ _ P.zs gG.row gW.row (by omega)).mono ?_
  rintro e w10 ⟨rfl, hb10⟩
  clear qg_10_0 qg_10_1 qg_10_2 qg_10_3 qg_10_4 qw_10_0 qw_10_1 qw_10_2 qw_10_3 qw_10_4
  have hs10 := hb10.size
  have fA := fA.below hb10
  have gW := gW.below hb10
  have QW := QW.below hb10
  have gG := gG.below hb10
  have QG := QG.below hb10
  have hB10 := hB9.trans (hb10.mono hB9.size)
  obtain ⟨qg_11_0, qg_11_1, qg_11_2, qg_11_3, qg_11_4⟩ := QG.cells
  go_wp2_with fail
  go_at_call 13
  refine (mark_res w4.heap.size w5.heap.size 1 P.k P.h P.p P.q _ ra5 P.zs.length _ P.zs gG (by omega)).mono ?_
  rintro e w11 ⟨rfl, ho11, hz11⟩
  clear qg_11_0 qg_11_1 qg_11_2 qg_11_3 qg_11_4
  clear gG
  have hs11 := hz11.size
  have fA := fA.zone hz11 (by omega)
  have gW := gW.zone hz11 (by omega)
  have QW := QW.zone hz11 (by omega)
  have QG := QG.zone hz11 (by omega)
  have hB11 := hB10.trans (hz11.below (by omega) hB10.size)
  have gG := ho11
  clear ho11
  obtain ⟨M, hM⟩ : ∃ M : Int, M = ((1 + P.zs.length : Nat) : Int) := ⟨_, rfl⟩
  rw [← hM]
  have dM : decide (M < 0) = false := by simp; omega
  obtain ⟨qg_12_0, qg_12_1, qg_12_2, qg_12_3, qg_12_4⟩ := QG.cells
  go_wp2_with fail
  go_at_call 14
  refine (held_res _ _ 1 P.k P.h P.p P.q _ ra5 P.zs.length _ gG.row (by omega)).mono ?_
  rintro e w12 ⟨rfl, hb12⟩
  clear qg_12_0 qg_12_1 qg_12_2 qg_12_3 qg_12_4
  have hs12 := hb12.size
  have fA := fA.below hb12
  have gW := gW.below hb12
  have QW := QW.below hb12
  have QG := QG.below hb12
  have gG := gG.below hb12
  have hB12 := hB11.trans (hb12.mono hB11.size)
  rw [← hM]
  go_wp2_with fail
  go_at_call 8
  refine (to_parts 0 w.heap.size _ aA nA cA lA fA hB12.size (by omega)).mono ?_
  rintro e w13 ⟨ra13, rc13, rfl, ho13, hc13, hd13, hb13⟩
  have hs13 := hb13.size
  have fA := fA.below hb13
  have gW := gW.below hb13
  have QW := QW.below hb13
  have QG := QG.below hb13
  have gG := gG.below hb13
  have hB13 := hB12.trans (hb13.mono hB12.size)
  have gYA : POwn w12.heap.size w13.heap.size w13 ra13 nA lA := ho13
  clear ho13
  go_wp2_with fail
  go_at_call 9
  refine (hI _ _ _ _ _ gYA.row (by omega)).mono ?_
  rintro e w14 ⟨ra14, rc14, rfl, ho14, hc14, hd14, hb14⟩
  have hs14 := hb14.size
  have fA := fA.below hb14
  have gW := gW.below hb14
  have QW := QW.below hb14
  have QG := QG.below hb14
  have gG := gG.below hb14
  have hB14 := hB13.trans (hb14.mono hB13.size)
  clear hI gYA
  have gH : Own .i64 w13.heap.size w14.heap.size w14 ra14 P.zs.length P.zs := ho14
  clear ho14
  have hA14 : Below w14.heap.size w14 (w14.alloc (.cells #[.int .i64 P.k, .slice ra14 P.zs.length rc14, .int .i64 P.h, .int .i64 P.p, .int .i64 P.q] 28)) := (Below.refl _ _).alloc (Nat.le_refl _) _
  have fA := fA.below hA14
  have gW := gW.below hA14
  have QW := QW.below hA14
  have QG := QG.below hA14
  have gG := gG.below hA14
  have gH := gH.below hA14
  have QH := Quint.new 28 (.int .i64 P.k) (.slice ra14 P.zs.length rc14) (.int .i64 P.h) (.int .i64 P.p) (.int .i64 P.q) w14
  have hBy := hB14.trans (hA14.mono hB14.size)
  clear hB14; have hB14 := hBy; clear hBy
  have hz14A : (w14.alloc (.cells #[.int .i64 P.k, .slice ra14 P.zs.length rc14, .int .i64 P.h, .int .i64 P.p, .int .i64 P.q] 28)).heap.size = w14.heap.size + 1 := size_alloc _ _
  obtain ⟨qh_15_0, qh_15_1, qh_15_2, qh_15_3, qh_15_4⟩ := QH.cells
  obtain ⟨qw_15_0, qw_15_1, qw_15_2, qw_15_3, qw_15_4⟩ := QW.cells
  go_wp2_with fail
  go_at_call 10
  refine (eq_res _ _ _ _ P.k P.h P.p P.q _ _ _ P.zs.length _ _ P.zs gH.row gW.row (by omega)).mono ?_
  rintro e w15 ⟨rfl, hb15⟩
  clear qh_15_0 qh_15_1 qh_15_2 qh_15_3 qh_15_4 qw_15_0 qw_15_1 qw_15_2 qw_15_3 qw_15_4
  have hs15 := hb15.size
  have fA := fA.below hb15
  have gW := gW.below hb15
  have QW := QW.below hb15
  have QG := QG.below hb15
  have gG := gG.below hb15
  have gH := gH.below hb15
  have QH := QH.below hb15
  have hB15 := hB14.trans (hb15.mono hB14.size)
  obtain ⟨qg_16_0, qg_16_1, qg_16_2, qg_16_3, qg_16_4⟩ := QG.cells
  go_wp2_with fail
  go_at_call 14
  refine (held_res _ _ 1 P.k P.h P.p P.q _ ra5 P.zs.length _ gG.row (by omega)).mono ?_
  rintro e w16 ⟨rfl, hb16⟩
  clear qg_16_0 qg_16_1 qg_16_2 qg_16_3 qg_16_4
  have hs16 := hb16.size
  have fA := fA.below hb16
  have gW := gW.below hb16
  have QW := QW.below hb16
  have QG := QG.below hb16
  have gG := gG.below hb16
  have gH := gH.below hb16
  have QH := QH.below hb16
  have hB16 := hB15.trans (hb16.mono hB15.size)
  rw [← hM]
  go_wp2
  go_ret
  exact ⟨rfl, hB16⟩
end Go.Proofs.Ytedjclnojocjkaa.FnExactGetPartW
