/-
  The law FnExactPutPart returns true, and leaves what was there as it was.
  Conditions: the arguments can be read.
-/
import Derived.Test.YtedjclnojocjkaaGreatDoorPutS
import Derived.Test.YtedjclnojocjkaaGreatDoorPutI
import Derived.Test.YtedjclnojocjkaaGreatDoorTold
import Derived.Test.YtedjclnojocjkaaGreatDoorPtsSz
import Derived.Test.YtedjclnojocjkaaGreatDoorPtsCopy
import Derived.Test.YtedjclnojocjkaaGreatDoorHeld
import Derived.Deep.RegionHeld3
namespace Go.Proofs.YtedjclnojocjkaaGreatDoor.FnExactPutPartW
open Go Go.RowKit Go.Proofs.YtedjclnojocjkaaGreatDoor.Mem Go.Proofs.YtedjclnojocjkaaGreatDoor.Adr Go.Proofs.YtedjclnojocjkaaGreatDoor.Res Go.Proofs.YtedjclnojocjkaaGreatDoor.Parts
set_option linter.unusedVariables false

set_option maxHeartbeats 4000000 in
set_option maxRecDepth 100000 in
theorem law_walk (lA : List Prt) (aA : Option Addr) (nA cA : Nat) (kR hR pR qR : Int) (aR : Option Addr) (nR cR : Nat) (zR : List Int) (w : World) (rA : PRow 0 w.heap.size w aA nA lA) (bA : (nA : Int) ≤ 9223372036854775807) (rR : Row .i64 0 w.heap.size w aR nR zR) (bR : (nR : Int) ≤ 9223372036854775807) (wkR : Wf kR) (whR : Wf hR) (wpR : Wf pR) (wqR : Wf qR) (a0 a1 : Addr) (hN : NoStore a0 w) (hP : NoPart a1 w) :
    Calls Tryz.prog 4 #[.slice aA nA cA, (Value.agg #[Value.int IntKind.i64 (kR), Value.slice (aR) (nR) (cR), Value.int IntKind.i64 (hR), Value.int IntKind.i64 (pR), Value.int IntKind.i64 (qR)])] w fun e w' => e = .returned (.bool true) ∧ Below w.heap.size w w' := by
  by_cases eA : (room lA : Int) ≤ 1048576
  rotate_left
  · have hB0 : Below w.heap.size w (w.alloc (.cells #[.int .i64 kR, .slice aR nR cR, .int .i64 hR, .int .i64 pR, .int .i64 qR] 48)) := by repeat' (first | exact Below.refl _ _ | assumption | refine Below.setCell ?_ ?_ _ | refine Below.alloc ?_ ?_ _ | refine Adr.below_drewN ?_ _ | refine Below.drew ?_ | exact Nat.le_refl _ | omega | (dsimp only; omega) | refine Adr.le_alloc ?_ | refine Adr.le_set ?_ | refine Adr.le_drewN ?_ | refine Adr.le_drew ?_)
    have hs0 : (w.alloc (.cells #[.int .i64 kR, .slice aR nR cR, .int .i64 hR, .int .i64 pR, .int .i64 qR] 48)).heap.size = w.heap.size + 1 := by simp only [size_alloc]
    have QR : Quint 48 (w.heap.size) (.int .i64 kR) (.slice aR nR cR) (.int .i64 hR) (.int .i64 pR) (.int .i64 qR) (w.alloc (.cells #[.int .i64 kR, .slice aR nR cR, .int .i64 hR, .int .i64 pR, .int .i64 qR] 48)) := by
      have := Quint.new 48 (.int .i64 kR) (.slice aR nR cR) (.int .i64 hR) (.int .i64 pR) (.int .i64 qR) w
      exact this
    have fA := rA.below hB0
    have fR := rR.below hB0
    have glhN : 0 < w.heap.size := Mem.cell_lt hN
    have hN := hN.below hB0
    have glhP : 1 < w.heap.size := Mem.cell_lt hP
    have hP := hP.below hB0
    go_enter Tryz.func4, Tryz.ntmps4
    go_wp2_with fail
    go_at_call 20
    refine (sz_parts 0 w.heap.size _ aA nA cA lA fA hB0.size 1048576 bA (by omega) (by omega)).mono ?_
    rintro e w1 ⟨rfl, hb1⟩
    rw [if_neg (show ¬ ((room lA : Int) ≤ 1048576) by omega)]
    have hs1 : (w.alloc (.cells #[.int .i64 kR, .slice aR nR cR, .int .i64 hR, .int .i64 pR, .int .i64 qR] 48)).heap.size ≤ w1.heap.size := hb1.size
    have QR := QR.below hb1
    have fA := fA.below hb1
    have fR := fR.below hb1
    have hN := hN.below hb1
    have hP := hP.below hb1
    have hB1 := hB0.trans (hb1.mono hB0.size)
    go_wp2
    go_ret
    exact ⟨rfl, hB1⟩
  obtain ⟨LA, hLA⟩ : ∃ L : Int, L = 1048576 - (room lA : Int) := ⟨_, rfl⟩
  have glA : 0 ≤ LA := by omega
  have gmA : LA ≤ 1048576 := by omega
  have rmA : room lA ≤ 1048576 := by omega
  have HLA := Lib.hid hLA
  clear hLA
  by_cases eR : (nR : Int) ≤ LA
  rotate_left
  · have hB0 : Below w.heap.size w (w.alloc (.cells #[.int .i64 kR, .slice aR nR cR, .int .i64 hR, .int .i64 pR, .int .i64 qR] 48)) := by repeat' (first | exact Below.refl _ _ | assumption | refine Below.setCell ?_ ?_ _ | refine Below.alloc ?_ ?_ _ | refine Adr.below_drewN ?_ _ | refine Below.drew ?_ | exact Nat.le_refl _ | omega | (dsimp only; omega) | refine Adr.le_alloc ?_ | refine Adr.le_set ?_ | refine Adr.le_drewN ?_ | refine Adr.le_drew ?_)
    have hs0 : (w.alloc (.cells #[.int .i64 kR, .slice aR nR cR, .int .i64 hR, .int .i64 pR, .int .i64 qR] 48)).heap.size = w.heap.size + 1 := by simp only [size_alloc]
    have QR : Quint 48 (w.heap.size) (.int .i64 kR) (.slice aR nR cR) (.int .i64 hR) (.int .i64 pR) (.int .i64 qR) (w.alloc (.cells #[.int .i64 kR, .slice aR nR cR, .int .i64 hR, .int .i64 pR, .int .i64 qR] 48)) := by
      have := Quint.new 48 (.int .i64 kR) (.slice aR nR cR) (.int .i64 hR) (.int .i64 pR) (.int .i64 qR) w
      exact this
    have fA := rA.below hB0
    have fR := rR.below hB0
    have glhN : 0 < w.heap.size := Mem.cell_lt hN
    have hN := hN.below hB0
    have glhP : 1 < w.heap.size := Mem.cell_lt hP
    have hP := hP.below hB0
    go_enter Tryz.func4, Tryz.ntmps4
    go_wp2_with fail
    go_at_call 20
    refine (sz_parts 0 w.heap.size _ aA nA cA lA fA hB0.size 1048576 bA (by omega) (by omega)).mono ?_
    rintro e w1 ⟨rfl, hb1⟩
    rw [if_pos (show (room lA : Int) ≤ 1048576 from eA), ← HLA.out]
    have dA : decide (LA < 0) = false := by simp; omega
    have hs1 : (w.alloc (.cells #[.int .i64 kR, .slice aR nR cR, .int .i64 hR, .int .i64 pR, .int .i64 qR] 48)).heap.size ≤ w1.heap.size := hb1.size
    have QR := QR.below hb1
    have fA := fA.below hb1
    have fR := fR.below hb1
    have hN := hN.below hb1
    have hP := hP.below hb1
    have hB1 := hB0.trans (hb1.mono hB0.size)
    obtain ⟨qr_2_0, qr_2_1, qr_2_2, qr_2_3, qr_2_4⟩ := QR.cells
    go_wp2_with fail
    go_at_call 21
    refine (sz_res kR hR pR qR aR nR cR LA _ bR (by omega) (by omega)).mono ?_
    rintro e w2 ⟨rfl, hb2⟩
    clear qr_2_0 qr_2_1 qr_2_2 qr_2_3 qr_2_4
    rw [if_neg (show ¬ ((nR : Int) ≤ LA) by omega)]
    have hs2 : w1.heap.size ≤ w2.heap.size := hb2.size
    have QR := QR.below hb2
    have fA := fA.below hb2
    have fR := fR.below hb2
    have hN := hN.below hb2
    have hP := hP.below hb2
    have hB2 := hB1.trans (hb2.mono hB1.size)
    go_wp2
    go_ret
    exact ⟨rfl, hB2⟩
  obtain ⟨LR, hLR⟩ : ∃ L : Int, L = LA - (nR : Int) := ⟨_, rfl⟩
  have glR : 0 ≤ LR := by omega
  have gmR : LR ≤ 1048576 := by omega
  have rmR : nR ≤ 1048576 := by omega
  have HLR := Lib.hid hLR
  clear hLR
  obtain ⟨X, hX⟩ : ∃ X : Prt, X = ⟨dig kR hR pR qR nR zR, kR, zR, hR, pR, qR, 1⟩ := ⟨_, rfl⟩
  have zeR : zR.length = nR := rR.len
  have sumR : room lA + nR ≤ 1048576 := by have := HLA.out; omega
  have dgr := dig_range kR hR pR qR nR zR
  have wX : X.Wf := by rw [hX]; exact ⟨WalkArith.wf_i64 (show -9223372036854775808 ≤ dig kR hR pR qR nR zR ∧ dig kR hR pR qR nR zR ≤ 9223372036854775807 by omega), wkR, whR, wpR, wqR, show (Lit.int .i64 1).wf = true by decide⟩
  have dX : X.d = digP X := by rw [hX]; unfold digP; simp only; rw [zeR]
  have uX : X.u = 1 := by rw [hX]
  have zX : X.zs.length = nR := by rw [hX]; exact zeR
  obtain ⟨R, hPR⟩ : ∃ R, putL X lA = R := ⟨_, rfl⟩
  obtain ⟨B, hBB⟩ : ∃ B, putB X lA = B := ⟨_, rfl⟩
  have zrR : room R ≤ 1048577 := by rw [← hPR]; exact Nat.le_trans (putL_room X lA) (by omega)
  have zRq := room_eq R
  have hS : ∀ (W : World) (loA hiA : Nat) (aA' : Option Addr) (cA' : Nat) (loR hiR : Nat) (aR' : Option Addr) (cR' : Nat), PRow loA hiA W aA' nA lA → hiA ≤ W.heap.size → Row .i64 loR hiR W aR' nR zR → hiR ≤ W.heap.size → nA ≤ cA' → nR ≤ cR' → cR' ≤ maxLen → Calls Tryz.prog 22 #[.slice aA' nA cA', (Value.agg #[Value.int IntKind.i64 (kR), Value.slice (aR') (nR) (cR'), Value.int IntKind.i64 (hR), Value.int IntKind.i64 (pR), Value.int IntKind.i64 (qR)])] W (PTold W.heap.size R B W) := by
    intro W loA hiA aA' cA' loR hiR aR' cR' gA gA' gR gR' tA tR uR
    rw [← hPR, ← hBB]
    subst hX
    subst zeR
    exact (put_spec loA hiA loR hiR W aA' nA cA' lA _ aR' cR' gA gA' rmA gR gR' (by show room lA + (1 + zR.length) ≤ 1048577; omega) wX dX uX tA).mono fun _ _ h => h.told
  have hI : ∀ (W : World) (loA hiA : Nat) (aA' : Option Addr) (cA' : Nat) (loR hiR : Nat) (aR' : Option Addr) (cR' : Nat), PRow loA hiA W aA' nA lA → hiA ≤ W.heap.size → Row .i64 loR hiR W aR' nR zR → hiR ≤ W.heap.size → nA ≤ cA' → nR ≤ cR' → cR' ≤ maxLen → NoStore a0 W → NoPart a1 W → Calls Tryz.prog 7 #[.slice aA' nA cA', (Value.agg #[Value.int IntKind.i64 (kR), Value.slice (aR') (nR) (cR'), Value.int IntKind.i64 (hR), Value.int IntKind.i64 (pR), Value.int IntKind.i64 (qR)])] W (PTold W.heap.size R B W) := by
    intro W loA hiA aA' cA' loR hiR aR' cR' gA gA' gR gR' tA tR uR hN' hP'
    rw [← hPR, ← hBB]
    subst hX
    subst zeR
    exact (put_impl loA hiA loR hiR W aA' nA cA' lA _ aR' cR' a0 a1 gA gA' rmA gR gR' tR uR (by show room lA + (1 + zR.length) ≤ 1048577; omega) wX dX uX hN' hP').mono fun _ _ h => h.told
  clear hPR hBB hX wX dX uX zX zeR dgr
  have zqA := room_eq lA
  have zlA := rA.len
  have hB0 : Below w.heap.size w (w.alloc (.cells #[.int .i64 kR, .slice aR nR cR, .int .i64 hR, .int .i64 pR, .int .i64 qR] 48)) := by repeat' (first | exact Below.refl _ _ | assumption | refine Below.setCell ?_ ?_ _ | refine Below.alloc ?_ ?_ _ | refine Adr.below_drewN ?_ _ | refine Below.drew ?_ | exact Nat.le_refl _ | omega | (dsimp only; omega) | refine Adr.le_alloc ?_ | refine Adr.le_set ?_ | refine Adr.le_drewN ?_ | refine Adr.le_drew ?_)
  have hs0 : (w.alloc (.cells #[.int .i64 kR, .slice aR nR cR, .int .i64 hR, .int .i64 pR, .int .i64 qR] 48)).heap.size = w.heap.size + 1 := by simp only [size_alloc]
  have QR : Quint 48 (w.heap.size) (.int .i64 kR) (.slice aR nR cR) (.int .i64 hR) (.int .i64 pR) (.int .i64 qR) (w.alloc (.cells #[.int .i64 kR, .slice aR nR cR, .int .i64 hR, .int .i64 pR, .int .i64 qR] 48)) := by
    have := Quint.new 48 (.int .i64 kR) (.slice aR nR cR) (.int .i64 hR) (.int .i64 pR) (.int .i64 qR) w
    exact this
  have fA := rA.below hB0
  have fR := rR.below hB0
  have glhN : 0 < w.heap.size := Mem.cell_lt hN
  have hN := hN.below hB0
  have glhP : 1 < w.heap.size := Mem.cell_lt hP
  have hP := hP.below hB0
  go_enter Tryz.func4, Tryz.ntmps4
  go_wp2_with fail
  go_at_call 20
  refine (sz_parts 0 w.heap.size _ aA nA cA lA fA hB0.size 1048576 bA (by omega) (by omega)).mono ?_
  rintro e w1 ⟨rfl, hb1⟩
  rw [if_pos eA, ← HLA.out]
  have dA : decide (LA < 0) = false := by simp; omega
  have hs1 : (w.alloc (.cells #[.int .i64 kR, .slice aR nR cR, .int .i64 hR, .int .i64 pR, .int .i64 qR] 48)).heap.size ≤ w1.heap.size := hb1.size
  have QR := QR.below hb1
  have fA := fA.below hb1
  have fR := fR.below hb1
  have hN := hN.below hb1
  have hP := hP.below hb1
  have hB1 := hB0.trans (hb1.mono hB0.size)
  obtain ⟨qr_2_0, qr_2_1, qr_2_2, qr_2_3, qr_2_4⟩ := QR.cells
  go_wp2_with fail
  go_at_call 21
  refine (sz_res kR hR pR qR aR nR cR LA _ bR (by omega) (by omega)).mono ?_
  rintro e w2 ⟨rfl, hb2⟩
  clear qr_2_0 qr_2_1 qr_2_2 qr_2_3 qr_2_4
  rw [if_pos eR, ← HLR.out]
  have dR : decide (LR < 0) = false := by simp; omega
  have hs2 : w1.heap.size ≤ w2.heap.size := hb2.size
  have QR := QR.below hb2
  have fA := fA.below hb2
  have fR := fR.below hb2
  have hN := hN.below hb2
  have hP := hP.below hb2
  have hB2 := hB1.trans (hb2.mono hB1.size)
  go_wp2_with fail
  have QR := QR.below ((Below.refl _ _).drew)
  have fA := fA.below ((Below.refl _ _).drew)
  have fR := fR.below ((Below.refl _ _).drew)
  have hN := hN.below ((Below.refl _ _).drew)
  have hP := hP.below ((Below.refl _ _).drew)
  have hB3 := hB2.drew
  refine wp_region_held_drew (S := (fun w' => w'.cell? ⟨w.heap.size, 0, none⟩ = some (.int .i64 kR) ∧ w'.cell? ⟨w.heap.size, 1, none⟩ = some (.slice aR nR cR) ∧ w'.cell? ⟨w.heap.size, 2, none⟩ = some (.int .i64 hR) ∧ w'.cell? ⟨w.heap.size, 3, none⟩ = some (.int .i64 pR) ∧ w'.cell? ⟨w.heap.size, 4, none⟩ = some (.int .i64 qR))) (by kernel_rfl) QR.cells (fun hHeld => ?_)
  refine wpAnyH_take (i := 0) (v := ?vf1_0) (List.getElem?_toArray.trans rfl) (by kernel_rfl) (by kernel_rfl) (by kernel_rfl) (fun _ _ _ h => h) (Or.inl ⟨by rfl, ?yf1_0⟩) (by assumption) ?rf1_0
  case yf1_0 => (intro w hSw; (try dsimp only at hSw); go_simp; try with_reducible rfl)
  try simp only [Act.put, List.setIfInBounds_toArray, List.set_cons_zero, List.set_cons_succ]
  refine wpAnyH_take (i := 2) (v := ?vf2_2) (List.getElem?_toArray.trans rfl) (by kernel_rfl) (by kernel_rfl) (by kernel_rfl) (fun _ _ _ h => h) (Or.inl ⟨by rfl, ?yf2_2⟩) (by assumption) ?rf2_2
  case yf2_2 => (intro w hSw; (try dsimp only at hSw); go_simp; try with_reducible rfl)
  try simp only [Act.put, List.setIfInBounds_toArray, List.set_cons_zero, List.set_cons_succ]
  refine wpAnyH_ready (rs := [1]) (by kernel_rfl) (by simp) ?_
  refine AllReadyH.cons (List.getElem?_toArray.trans rfl) (fun Kc hKc => ?_) AllReadyH.nil
  go_simp
  go_at_call 23
  refine (to_parts 0 w.heap.size _ aA nA cA lA fA hB3.size (by omega)).mono ?_
  rintro e w4 ⟨ra4, rc4, rfl, ho4, hc4, hd4, hb4⟩
  have hs4 : w2.heap.size ≤ w4.heap.size := hb4.size
  have QR := QR.below hb4
  have fA := fA.below hb4
  have fR := fR.below hb4
  have hN := hN.below hb4
  have hP := hP.below hb4
  have hB4 := hB3.trans (hb4.mono hB3.size)
  have gMA : POwn w2.heap.size w4.heap.size w4 ra4 nA lA := ho4
  clear ho4
  have s9 := QR.cells
  refine hKc.out _ _ s9 (fun hHeld => ?_)
  clear hKc Kc
  try simp only [Act.put, List.setIfInBounds_toArray, List.set_cons_zero, List.set_cons_succ]
  refine wpAnyH_ready (rs := [3]) (by kernel_rfl) (by simp) ?_
  refine AllReadyH.cons (List.getElem?_toArray.trans rfl) (fun Kc hKc => ?_) AllReadyH.nil
  go_simp
  go_at_call 24
  refine (to_res 0 w.heap.size kR hR pR qR _ aR nR cR zR fR hB4.size (by omega)).mono ?_
  rintro e w5 ⟨ra5, rc5, rfl, ho5, hc5, hd5, hb5⟩
  have hs5 : w4.heap.size ≤ w5.heap.size := hb5.size
  have QR := QR.below hb5
  have fA := fA.below hb5
  have fR := fR.below hb5
  have hN := hN.below hb5
  have hP := hP.below hb5
  have gMA := gMA.below hb5
  have hB5 := hB4.trans (hb5.mono hB4.size)
  have gMR : Own .i64 w4.heap.size w5.heap.size w5 ra5 nR zR := ho5
  clear ho5
  have s9 := QR.cells
  refine hKc.out _ _ s9 (fun hHeld => ?_)
  clear hKc Kc
  try simp only [Act.put, List.setIfInBounds_toArray, List.set_cons_zero, List.set_cons_succ]
  refine wpAnyH_ready (rs := [4]) (by kernel_rfl) (by simp) ?_
  refine AllReadyH.cons (List.getElem?_toArray.trans rfl) (fun Kc hKc => ?_) AllReadyH.nil
  go_simp
  go_at_call 22
  refine (hS _ _ _ _ _ _ _ _ _ gMA.row (by omega) gMR.row (by omega) hc4 hc5 hd5).mono ?_
  rintro e w6 ⟨ra6, rc6, rfl, ho6, hc6, hd6, hb6⟩
  have hs6 : w5.heap.size ≤ w6.heap.size := hb6.size
  have QR := QR.below hb6
  have fA := fA.below hb6
  have fR := fR.below hb6
  have hN := hN.below hb6
  have hP := hP.below hb6
  have hB6 := hB5.trans (hb6.mono hB5.size)
  clear gMA gMR
  have s9 := QR.cells
  refine hKc.out _ _ s9 (fun hHeld => ?_)
  clear hKc Kc
  try simp only [Act.put, List.setIfInBounds_toArray, List.set_cons_zero, List.set_cons_succ]
  refine wpAnyH_take (i := 5) (v := ?vf3_5) (List.getElem?_toArray.trans rfl) (by kernel_rfl) (by kernel_rfl) (by kernel_rfl) (fun _ _ _ h => h) (Or.inl ⟨by rfl, ?yf3_5⟩) (by assumption) ?rf3_5
  case yf3_5 => (intro w hSw; (try dsimp only at hSw); go_simp; try with_reducible rfl)
  try simp only [Act.put, List.setIfInBounds_toArray, List.set_cons_zero, List.set_cons_succ]
  refine wpAnyH_take (i := 6) (v := ?vf4_6) (List.getElem?_toArray.trans rfl) (by kernel_rfl) (by kernel_rfl) (by kernel_rfl) (fun _ _ _ h => h) (Or.inl ⟨by rfl, ?yf4_6⟩) (by assumption) ?rf4_6
  case yf4_6 => (intro w hSw; (try dsimp only at hSw); go_simp; try with_reducible rfl)
  try simp only [Act.put, List.setIfInBounds_toArray, List.set_cons_zero, List.set_cons_succ]
  refine wpAnyH_take (i := 7) (v := ?vf5_7) (List.getElem?_toArray.trans rfl) (by kernel_rfl) (by kernel_rfl) (by kernel_rfl) (fun _ _ _ h => h) (Or.inl ⟨by rfl, ?yf5_7⟩) (by assumption) ?rf5_7
  case yf5_7 => (intro w hSw; (try dsimp only at hSw); go_simp; try with_reducible rfl)
  try simp only [Act.put, List.setIfInBounds_toArray, List.set_cons_zero, List.set_cons_succ]
  refine wpAnyH_take (i := 8) (v := ?vf6_8) (List.getElem?_toArray.trans rfl) (by kernel_rfl) (by kernel_rfl) (by kernel_rfl) (fun _ _ _ h => h) (Or.inl ⟨by rfl, ?yf6_8⟩) (by assumption) ?rf6_8
  case yf6_8 => (intro w hSw; (try dsimp only at hSw); go_simp; try with_reducible rfl)
  try simp only [Act.put, List.setIfInBounds_toArray, List.set_cons_zero, List.set_cons_succ]
  refine wpAnyH_take (i := 9) (v := ?vf7_9) (List.getElem?_toArray.trans rfl) (by kernel_rfl) (by kernel_rfl) (by kernel_rfl) (fun _ _ _ h => h) (Or.inl ⟨by rfl, ?yf7_9⟩) (by assumption) ?rf7_9
  case yf7_9 => (intro w hSw; (try dsimp only at hSw); go_simp; try with_reducible rfl)
  try simp only [Act.put, List.setIfInBounds_toArray, List.set_cons_zero, List.set_cons_succ]
  refine wpAnyH_done (by kernel_rfl) ?_ _
  have gW : POwn w5.heap.size w6.heap.size w6 ra6 R.length R := ho6
  clear ho6
  clear hS
  go_wp2_with fail
  go_at_call 23
  refine (to_parts 0 w.heap.size _ aA nA cA lA fA hB6.size (by omega)).mono ?_
  rintro e w7 ⟨ra7, rc7, rfl, ho7, hc7, hd7, hb7⟩
  have hs7 : w6.heap.size ≤ w7.heap.size := hb7.size
  have QR := QR.below hb7
  have fA := fA.below hb7
  have fR := fR.below hb7
  have hN := hN.below hb7
  have hP := hP.below hb7
  have gW := gW.below hb7
  have hB7 := hB6.trans (hb7.mono hB6.size)
  have gXA : POwn w6.heap.size w7.heap.size w7 ra7 nA lA := ho7
  clear ho7
  obtain ⟨qr_8_0, qr_8_1, qr_8_2, qr_8_3, qr_8_4⟩ := QR.cells
  go_wp2_with fail
  go_at_call 24
  refine (to_res 0 w.heap.size kR hR pR qR _ aR nR cR zR fR hB7.size (by omega)).mono ?_
  rintro e w8 ⟨ra8, rc8, rfl, ho8, hc8, hd8, hb8⟩
  clear qr_8_0 qr_8_1 qr_8_2 qr_8_3 qr_8_4
  have hs8 : w7.heap.size ≤ w8.heap.size := hb8.size
  have QR := QR.below hb8
  have fA := fA.below hb8
  have fR := fR.below hb8
  have hN := hN.below hb8
  have hP := hP.below hb8
  have gW := gW.below hb8
  have gXA := gXA.below hb8
  have hB8 := hB7.trans (hb8.mono hB7.size)
  have gXR : Own .i64 w7.heap.size w8.heap.size w8 ra8 nR zR := ho8
  clear ho8
  have hA8 : Below w8.heap.size w8 (w8.alloc (.cells #[.int .i64 kR, .slice ra8 nR rc8, .int .i64 hR, .int .i64 pR, .int .i64 qR] 29)) := (Below.refl _ _).alloc (Nat.le_refl _) _
  have QR := QR.below hA8
  have fA := fA.below hA8
  have fR := fR.below hA8
  have hN := hN.below hA8
  have hP := hP.below hA8
  have gW := gW.below hA8
  have gXA := gXA.below hA8
  have gXR := gXR.below hA8
  have QX := Quint.new 29 (.int .i64 kR) (.slice ra8 nR rc8) (.int .i64 hR) (.int .i64 pR) (.int .i64 qR) w8
  have hBy := hB8.trans (hA8.mono hB8.size)
  clear hB8; have hB8 := hBy; clear hBy
  have hz8A : (w8.alloc (.cells #[.int .i64 kR, .slice ra8 nR rc8, .int .i64 hR, .int .i64 pR, .int .i64 qR] 29)).heap.size = w8.heap.size + 1 := size_alloc _ _
  obtain ⟨qx_9_0, qx_9_1, qx_9_2, qx_9_3, qx_9_4⟩ := QX.cells
  go_wp2_with fail
  go_at_call 7
  refine (hI _ _ _ _ _ _ _ _ _ gXA.row (by omega) gXR.row (by omega) hc7 hc8 hd8 hN hP).mono ?_
  rintro e w9 ⟨ra9, rc9, rfl, ho9, hc9, hd9, hb9⟩
  clear qx_9_0 qx_9_1 qx_9_2 qx_9_3 qx_9_4
  have hs9 : (w8.alloc (.cells #[.int .i64 kR, .slice ra8 nR rc8, .int .i64 hR, .int .i64 pR, .int .i64 qR] 29)).heap.size ≤ w9.heap.size := hb9.size
  have QR := QR.below hb9
  have fA := fA.below hb9
  have fR := fR.below hb9
  have hN := hN.below hb9
  have hP := hP.below hb9
  have gW := gW.below hb9
  have gXA := gXA.below hb9
  have gXR := gXR.below hb9
  have QX := QX.below hb9
  have hB9 := hB8.trans (hb9.mono hB8.size)
  have gG : POwn (w8.alloc (.cells #[.int .i64 kR, .slice ra8 nR rc8, .int .i64 hR, .int .i64 pR, .int .i64 qR] 29)).heap.size w9.heap.size w9 ra9 R.length R := ho9
  clear ho9
  go_wp2_with fail
  go_at_call 25
  refine (eq_parts _ _ _ _ _ ra9 ra6 R.length _ _ R gG.row gW.row (by omega) (by omega) (by omega)).mono ?_
  rintro e w10 ⟨rfl, hb10⟩
  have hs10 : w9.heap.size ≤ w10.heap.size := hb10.size
  have QR := QR.below hb10
  have fA := fA.below hb10
  have fR := fR.below hb10
  have hN := hN.below hb10
  have hP := hP.below hb10
  have gW := gW.below hb10
  have gXA := gXA.below hb10
  have gXR := gXR.below hb10
  have QX := QX.below hb10
  have gG := gG.below hb10
  have hB10 := hB9.trans (hb10.mono hB9.size)
  go_wp2_with fail
  go_at_call 23
  refine (to_parts 0 w.heap.size _ aA nA cA lA fA hB10.size (by omega)).mono ?_
  rintro e w11 ⟨ra11, rc11, rfl, ho11, hc11, hd11, hb11⟩
  have hs11 : w10.heap.size ≤ w11.heap.size := hb11.size
  have QR := QR.below hb11
  have fA := fA.below hb11
  have fR := fR.below hb11
  have hN := hN.below hb11
  have hP := hP.below hb11
  have gW := gW.below hb11
  have gXA := gXA.below hb11
  have gXR := gXR.below hb11
  have QX := QX.below hb11
  have gG := gG.below hb11
  have hB11 := hB10.trans (hb11.mono hB10.size)
  have gcA0 : POwn w10.heap.size w11.heap.size w11 ra11 nA lA := ho11
  clear ho11
  go_wp2_with fail
  go_at_call 25
  refine (eq_parts _ _ _ _ _ ra7 ra11 nA _ _ lA gXA.row gcA0.row (by omega) (by omega) (by omega)).mono ?_
  rintro e w12 ⟨rfl, hb12⟩
  clear gcA0
  have hs12 : w11.heap.size ≤ w12.heap.size := hb12.size
  have QR := QR.below hb12
  have fA := fA.below hb12
  have fR := fR.below hb12
  have hN := hN.below hb12
  have hP := hP.below hb12
  have gW := gW.below hb12
  have gXA := gXA.below hb12
  have gXR := gXR.below hb12
  have QX := QX.below hb12
  have gG := gG.below hb12
  have hB12 := hB11.trans (hb12.mono hB11.size)
  go_wp2_with fail
  have QR := QR.below ((Below.refl _ _).drew)
  have fA := fA.below ((Below.refl _ _).drew)
  have fR := fR.below ((Below.refl _ _).drew)
  have hN := hN.below ((Below.refl _ _).drew)
  have hP := hP.below ((Below.refl _ _).drew)
  have gW := gW.below ((Below.refl _ _).drew)
  have gXA := gXA.below ((Below.refl _ _).drew)
  have gXR := gXR.below ((Below.refl _ _).drew)
  have QX := QX.below ((Below.refl _ _).drew)
  have gG := gG.below ((Below.refl _ _).drew)
  have hB13 := hB12.drew
  refine wp_region_held_drew (S := (fun w' => w'.cell? ⟨w8.heap.size, 0, none⟩ = some (.int .i64 kR) ∧ w'.cell? ⟨w8.heap.size, 1, none⟩ = some (.slice ra8 nR rc8) ∧ w'.cell? ⟨w8.heap.size, 2, none⟩ = some (.int .i64 hR) ∧ w'.cell? ⟨w8.heap.size, 3, none⟩ = some (.int .i64 pR) ∧ w'.cell? ⟨w8.heap.size, 4, none⟩ = some (.int .i64 qR) ∧ w'.cell? ⟨w.heap.size, 0, none⟩ = some (.int .i64 kR) ∧ w'.cell? ⟨w.heap.size, 1, none⟩ = some (.slice aR nR cR) ∧ w'.cell? ⟨w.heap.size, 2, none⟩ = some (.int .i64 hR) ∧ w'.cell? ⟨w.heap.size, 3, none⟩ = some (.int .i64 pR) ∧ w'.cell? ⟨w.heap.size, 4, none⟩ = some (.int .i64 qR))) (by kernel_rfl) (ten QX QR) (fun hHeld => ?_)
  refine wpAnyH_take (i := 0) (v := ?vf8_0) (List.getElem?_toArray.trans rfl) (by kernel_rfl) (by kernel_rfl) (by kernel_rfl) (fun _ _ _ h => h) (Or.inl ⟨by rfl, ?yf8_0⟩) (by assumption) ?rf8_0
  case yf8_0 => (intro w hSw; (try dsimp only at hSw); go_simp; try with_reducible rfl)
  try simp only [Act.put, List.setIfInBounds_toArray, List.set_cons_zero, List.set_cons_succ]
  refine wpAnyH_take (i := 1) (v := ?vf9_1) (List.getElem?_toArray.trans rfl) (by kernel_rfl) (by kernel_rfl) (by kernel_rfl) (fun _ _ _ h => h) (Or.inl ⟨by rfl, ?yf9_1⟩) (by assumption) ?rf9_1
  case yf9_1 => (intro w hSw; (try dsimp only at hSw); go_simp; try with_reducible rfl)
  try simp only [Act.put, List.setIfInBounds_toArray, List.set_cons_zero, List.set_cons_succ]
  refine wpAnyH_ready (rs := [2]) (by kernel_rfl) (by simp) ?_
  refine AllReadyH.cons (List.getElem?_toArray.trans rfl) (fun Kc hKc => ?_) AllReadyH.nil
  go_simp
  go_at_call 24
  refine (to_res 0 w.heap.size kR hR pR qR _ aR nR cR zR fR hB13.size (by omega)).mono ?_
  rintro e w14 ⟨ra14, rc14, rfl, ho14, hc14, hd14, hb14⟩
  have hs14 : w12.heap.size ≤ w14.heap.size := hb14.size
  have QR := QR.below hb14
  have fA := fA.below hb14
  have fR := fR.below hb14
  have hN := hN.below hb14
  have hP := hP.below hb14
  have gW := gW.below hb14
  have gXA := gXA.below hb14
  have gXR := gXR.below hb14
  have QX := QX.below hb14
  have gG := gG.below hb14
  have hB14 := hB13.trans (hb14.mono hB13.size)
  have gcR : Own .i64 w12.heap.size w14.heap.size w14 ra14 nR zR := ho14
  clear ho14
  have s9 := (ten QX QR)
  refine hKc.out _ _ s9 (fun hHeld => ?_)
  clear hKc Kc
  try simp only [Act.put, List.setIfInBounds_toArray, List.set_cons_zero, List.set_cons_succ]
  refine wpAnyH_ready (rs := [3]) (by kernel_rfl) (by simp) ?_
  refine AllReadyH.cons (List.getElem?_toArray.trans rfl) (fun Kc hKc => ?_) AllReadyH.nil
  go_simp
  go_at_call 26
  refine (eq_res _ _ _ _ kR hR pR qR _ _ _ nR _ _ zR gXR.row gcR.row (by omega)).mono ?_
  rintro e w15 ⟨rfl, hb15⟩
  clear gcR
  have hs15 : w14.heap.size ≤ w15.heap.size := hb15.size
  have QR := QR.below hb15
  have fA := fA.below hb15
  have fR := fR.below hb15
  have hN := hN.below hb15
  have hP := hP.below hb15
  have gW := gW.below hb15
  have gXA := gXA.below hb15
  have gXR := gXR.below hb15
  have QX := QX.below hb15
  have gG := gG.below hb15
  have hB15 := hB14.trans (hb15.mono hB14.size)
  have s9 := (ten QX QR)
  refine hKc.out _ _ s9 (fun hHeld => ?_)
  clear hKc Kc
  try simp only [Act.put, List.setIfInBounds_toArray, List.set_cons_zero, List.set_cons_succ]
  refine wpAnyH_take (i := 4) (v := ?vf10_4) (List.getElem?_toArray.trans rfl) (by kernel_rfl) (by kernel_rfl) (by kernel_rfl) (fun _ _ _ h => h) (Or.inl ⟨by rfl, ?yf10_4⟩) (by assumption) ?rf10_4
  case yf10_4 => (intro w hSw; (try dsimp only at hSw); go_simp; try with_reducible rfl)
  try simp only [Act.put, List.setIfInBounds_toArray, List.set_cons_zero, List.set_cons_succ]
  refine wpAnyH_done (by kernel_rfl) ?_ _
  go_wp2_with fail
  go_at_call 27
  refine (mark_parts w6.heap.size w7.heap.size 1 _ ra7 nA _ lA gXA (by omega)).mono ?_
  rintro e w16 ⟨rfl, ho16, hz16⟩
  clear gXA ho16
  have hs16 := hz16.size
  have QR := QR.zone hz16 (by omega)
  have fA := fA.zone hz16 (by omega)
  have fR := fR.zone hz16 (by omega)
  have hN := hN.zone hz16 (by omega)
  have hP := hP.zone hz16 (by omega)
  have gW := gW.zone hz16 (by omega)
  have gXR := gXR.zone hz16 (by omega)
  have QX := QX.zone hz16 (by omega)
  have gG := gG.zone hz16 (by omega)
  have hB16 := hB15.trans (hz16.below (by omega) hB15.size)
  obtain ⟨KN, hKN⟩ : ∃ K : Nat, K = 1 + 6 * nA + bodies lA := ⟨_, rfl⟩
  rw [← hKN]
  have zKN : KN ≤ 1125899906842624 := by omega
  clear hKN
  obtain ⟨qx_17_0, qx_17_1, qx_17_2, qx_17_3, qx_17_4⟩ := QX.cells
  go_wp2_with fail
  go_at_call 28
  refine (mark_res w7.heap.size w8.heap.size KN kR hR pR qR _ ra8 nR _ zR gXR (by omega)).mono ?_
  rintro e w17 ⟨rfl, ho17, hz17⟩
  clear qx_17_0 qx_17_1 qx_17_2 qx_17_3 qx_17_4
  clear gXR ho17
  have hs17 := hz17.size
  have QR := QR.zone hz17 (by omega)
  have fA := fA.zone hz17 (by omega)
  have fR := fR.zone hz17 (by omega)
  have hN := hN.zone hz17 (by omega)
  have hP := hP.zone hz17 (by omega)
  have gW := gW.zone hz17 (by omega)
  have QX := QX.zone hz17 (by omega)
  have gG := gG.zone hz17 (by omega)
  have hB17 := hB16.trans (hz17.below (by omega) hB16.size)
  obtain ⟨K, hK⟩ : ∃ K : Int, K = ((KN + nR : Nat) : Int) := ⟨_, rfl⟩
  rw [← hK]
  have dK : decide (K < 0) = false := by simp; omega
  clear hK
  go_wp2_with fail
  go_at_call 25
  refine (eq_parts _ _ _ _ _ ra9 ra6 R.length _ _ R gG.row gW.row (by omega) (by omega) (by omega)).mono ?_
  rintro e w18 ⟨rfl, hb18⟩
  have hs18 : w17.heap.size ≤ w18.heap.size := hb18.size
  have QR := QR.below hb18
  have fA := fA.below hb18
  have fR := fR.below hb18
  have hN := hN.below hb18
  have hP := hP.below hb18
  have gW := gW.below hb18
  have QX := QX.below hb18
  have gG := gG.below hb18
  have hB18 := hB17.trans (hb18.mono hB17.size)
  go_wp2_with fail
  go_at_call 27
  refine (mark_parts (w8.alloc (.cells #[.int .i64 kR, .slice ra8 nR rc8, .int .i64 hR, .int .i64 pR, .int .i64 qR] 29)).heap.size w9.heap.size 1 _ ra9 R.length _ R gG (by omega)).mono ?_
  rintro e w19 ⟨rfl, ho19, hz19⟩
  clear gG
  have hs19 := hz19.size
  have QR := QR.zone hz19 (by omega)
  have fA := fA.zone hz19 (by omega)
  have fR := fR.zone hz19 (by omega)
  have hN := hN.zone hz19 (by omega)
  have hP := hP.zone hz19 (by omega)
  have gW := gW.zone hz19 (by omega)
  have QX := QX.zone hz19 (by omega)
  have hB19 := hB18.trans (hz19.below (by omega) hB18.size)
  have gG := ho19
  clear ho19
  obtain ⟨M, hM⟩ : ∃ M : Int, M = ((1 + 6 * R.length + bodies R : Nat) : Int) := ⟨_, rfl⟩
  rw [← hM]
  have dM : decide (M < 0) = false := by simp; omega
  go_wp2_with fail
  go_at_call 29
  refine (held_parts _ _ 1 _ ra9 R.length _ R gG.row (by omega)).mono ?_
  rintro e w20 ⟨rfl, m20, hw20⟩
  have hb20 : Below w19.heap.size w19 w20 := by rw [hw20]; exact Mem.below_drewN (Below.refl _ _) _
  clear hw20
  have hs20 : w19.heap.size ≤ w20.heap.size := hb20.size
  have QR := QR.below hb20
  have fA := fA.below hb20
  have fR := fR.below hb20
  have hN := hN.below hb20
  have hP := hP.below hb20
  have gW := gW.below hb20
  have QX := QX.below hb20
  have gG := gG.below hb20
  have hB20 := hB19.trans (hb20.mono hB19.size)
  rw [← hM]
  go_wp2_with fail
  have QR := QR.below ((Below.refl _ _).drew)
  have fA := fA.below ((Below.refl _ _).drew)
  have fR := fR.below ((Below.refl _ _).drew)
  have hN := hN.below ((Below.refl _ _).drew)
  have hP := hP.below ((Below.refl _ _).drew)
  have gW := gW.below ((Below.refl _ _).drew)
  have QX := QX.below ((Below.refl _ _).drew)
  have gG := gG.below ((Below.refl _ _).drew)
  have hB21 := hB20.drew
  refine wp_region_held_drew (S := (fun w' => w'.cell? ⟨w.heap.size, 0, none⟩ = some (.int .i64 kR) ∧ w'.cell? ⟨w.heap.size, 1, none⟩ = some (.slice aR nR cR) ∧ w'.cell? ⟨w.heap.size, 2, none⟩ = some (.int .i64 hR) ∧ w'.cell? ⟨w.heap.size, 3, none⟩ = some (.int .i64 pR) ∧ w'.cell? ⟨w.heap.size, 4, none⟩ = some (.int .i64 qR))) (by kernel_rfl) QR.cells (fun hHeld => ?_)
  refine wpAnyH_take (i := 0) (v := ?vf11_0) (List.getElem?_toArray.trans rfl) (by kernel_rfl) (by kernel_rfl) (by kernel_rfl) (fun _ _ _ h => h) (Or.inl ⟨by rfl, ?yf11_0⟩) (by assumption) ?rf11_0
  case yf11_0 => (intro w hSw; (try dsimp only at hSw); go_simp; try with_reducible rfl)
  try simp only [Act.put, List.setIfInBounds_toArray, List.set_cons_zero, List.set_cons_succ]
  refine wpAnyH_take (i := 2) (v := ?vf12_2) (List.getElem?_toArray.trans rfl) (by kernel_rfl) (by kernel_rfl) (by kernel_rfl) (fun _ _ _ h => h) (Or.inl ⟨by rfl, ?yf12_2⟩) (by assumption) ?rf12_2
  case yf12_2 => (intro w hSw; (try dsimp only at hSw); go_simp; try with_reducible rfl)
  try simp only [Act.put, List.setIfInBounds_toArray, List.set_cons_zero, List.set_cons_succ]
  refine wpAnyH_ready (rs := [1]) (by kernel_rfl) (by simp) ?_
  refine AllReadyH.cons (List.getElem?_toArray.trans rfl) (fun Kc hKc => ?_) AllReadyH.nil
  go_simp
  go_at_call 23
  refine (to_parts 0 w.heap.size _ aA nA cA lA fA hB21.size (by omega)).mono ?_
  rintro e w22 ⟨ra22, rc22, rfl, ho22, hc22, hd22, hb22⟩
  have hs22 : w20.heap.size ≤ w22.heap.size := hb22.size
  have QR := QR.below hb22
  have fA := fA.below hb22
  have fR := fR.below hb22
  have hN := hN.below hb22
  have hP := hP.below hb22
  have gW := gW.below hb22
  have QX := QX.below hb22
  have gG := gG.below hb22
  have hB22 := hB21.trans (hb22.mono hB21.size)
  have gYA : POwn w20.heap.size w22.heap.size w22 ra22 nA lA := ho22
  clear ho22
  have s9 := QR.cells
  refine hKc.out _ _ s9 (fun hHeld => ?_)
  clear hKc Kc
  try simp only [Act.put, List.setIfInBounds_toArray, List.set_cons_zero, List.set_cons_succ]
  refine wpAnyH_ready (rs := [3]) (by kernel_rfl) (by simp) ?_
  refine AllReadyH.cons (List.getElem?_toArray.trans rfl) (fun Kc hKc => ?_) AllReadyH.nil
  go_simp
  go_at_call 24
  refine (to_res 0 w.heap.size kR hR pR qR _ aR nR cR zR fR hB22.size (by omega)).mono ?_
  rintro e w23 ⟨ra23, rc23, rfl, ho23, hc23, hd23, hb23⟩
  have hs23 : w22.heap.size ≤ w23.heap.size := hb23.size
  have QR := QR.below hb23
  have fA := fA.below hb23
  have fR := fR.below hb23
  have hN := hN.below hb23
  have hP := hP.below hb23
  have gW := gW.below hb23
  have QX := QX.below hb23
  have gG := gG.below hb23
  have gYA := gYA.below hb23
  have hB23 := hB22.trans (hb23.mono hB22.size)
  have gYR : Own .i64 w22.heap.size w23.heap.size w23 ra23 nR zR := ho23
  clear ho23
  have s9 := QR.cells
  refine hKc.out _ _ s9 (fun hHeld => ?_)
  clear hKc Kc
  try simp only [Act.put, List.setIfInBounds_toArray, List.set_cons_zero, List.set_cons_succ]
  refine wpAnyH_ready (rs := [4]) (by kernel_rfl) (by simp) ?_
  refine AllReadyH.cons (List.getElem?_toArray.trans rfl) (fun Kc hKc => ?_) AllReadyH.nil
  go_simp
  go_at_call 7
  refine (hI _ _ _ _ _ _ _ _ _ gYA.row (by omega) gYR.row (by omega) hc22 hc23 hd23 hN hP).mono ?_
  rintro e w24 ⟨ra24, rc24, rfl, ho24, hc24, hd24, hb24⟩
  have hs24 : w23.heap.size ≤ w24.heap.size := hb24.size
  have QR := QR.below hb24
  have fA := fA.below hb24
  have fR := fR.below hb24
  have hN := hN.below hb24
  have hP := hP.below hb24
  have gW := gW.below hb24
  have QX := QX.below hb24
  have gG := gG.below hb24
  have hB24 := hB23.trans (hb24.mono hB23.size)
  clear gYA gYR
  have s9 := QR.cells
  refine hKc.out _ _ s9 (fun hHeld => ?_)
  clear hKc Kc
  try simp only [Act.put, List.setIfInBounds_toArray, List.set_cons_zero, List.set_cons_succ]
  refine wpAnyH_take (i := 5) (v := ?vf13_5) (List.getElem?_toArray.trans rfl) (by kernel_rfl) (by kernel_rfl) (by kernel_rfl) (fun _ _ _ h => h) (Or.inl ⟨by rfl, ?yf13_5⟩) (by assumption) ?rf13_5
  case yf13_5 => (intro w hSw; (try dsimp only at hSw); go_simp; try with_reducible rfl)
  try simp only [Act.put, List.setIfInBounds_toArray, List.set_cons_zero, List.set_cons_succ]
  refine wpAnyH_take (i := 6) (v := ?vf14_6) (List.getElem?_toArray.trans rfl) (by kernel_rfl) (by kernel_rfl) (by kernel_rfl) (fun _ _ _ h => h) (Or.inl ⟨by rfl, ?yf14_6⟩) (by assumption) ?rf14_6
  case yf14_6 => (intro w hSw; (try dsimp only at hSw); go_simp; try with_reducible rfl)
  try simp only [Act.put, List.setIfInBounds_toArray, List.set_cons_zero, List.set_cons_succ]
  refine wpAnyH_take (i := 7) (v := ?vf15_7) (List.getElem?_toArray.trans rfl) (by kernel_rfl) (by kernel_rfl) (by kernel_rfl) (fun _ _ _ h => h) (Or.inl ⟨by rfl, ?yf15_7⟩) (by assumption) ?rf15_7
  case yf15_7 => (intro w hSw; (try dsimp only at hSw); go_simp; try with_reducible rfl)
  try simp only [Act.put, List.setIfInBounds_toArray, List.set_cons_zero, List.set_cons_succ]
  refine wpAnyH_take (i := 8) (v := ?vf16_8) (List.getElem?_toArray.trans rfl) (by kernel_rfl) (by kernel_rfl) (by kernel_rfl) (fun _ _ _ h => h) (Or.inl ⟨by rfl, ?yf16_8⟩) (by assumption) ?rf16_8
  case yf16_8 => (intro w hSw; (try dsimp only at hSw); go_simp; try with_reducible rfl)
  try simp only [Act.put, List.setIfInBounds_toArray, List.set_cons_zero, List.set_cons_succ]
  refine wpAnyH_take (i := 9) (v := ?vf17_9) (List.getElem?_toArray.trans rfl) (by kernel_rfl) (by kernel_rfl) (by kernel_rfl) (fun _ _ _ h => h) (Or.inl ⟨by rfl, ?yf17_9⟩) (by assumption) ?rf17_9
  case yf17_9 => (intro w hSw; (try dsimp only at hSw); go_simp; try with_reducible rfl)
  try simp only [Act.put, List.setIfInBounds_toArray, List.set_cons_zero, List.set_cons_succ]
  refine wpAnyH_done (by kernel_rfl) ?_ _
  have gH : POwn w23.heap.size w24.heap.size w24 ra24 R.length R := ho24
  clear ho24
  clear hI
  go_wp2_with fail
  go_at_call 25
  refine (eq_parts _ _ _ _ _ ra24 ra6 R.length _ _ R gH.row gW.row (by omega) (by omega) (by omega)).mono ?_
  rintro e w25 ⟨rfl, hb25⟩
  have hs25 : w24.heap.size ≤ w25.heap.size := hb25.size
  have QR := QR.below hb25
  have fA := fA.below hb25
  have fR := fR.below hb25
  have hN := hN.below hb25
  have hP := hP.below hb25
  have gW := gW.below hb25
  have QX := QX.below hb25
  have gG := gG.below hb25
  have gH := gH.below hb25
  have hB25 := hB24.trans (hb25.mono hB24.size)
  go_wp2_with fail
  go_at_call 29
  refine (held_parts _ _ 1 _ ra9 R.length _ R gG.row (by omega)).mono ?_
  rintro e w26 ⟨rfl, m26, hw26⟩
  have hb26 : Below w25.heap.size w25 w26 := by rw [hw26]; exact Mem.below_drewN (Below.refl _ _) _
  clear hw26
  have hs26 : w25.heap.size ≤ w26.heap.size := hb26.size
  have QR := QR.below hb26
  have fA := fA.below hb26
  have fR := fR.below hb26
  have hN := hN.below hb26
  have hP := hP.below hb26
  have gW := gW.below hb26
  have QX := QX.below hb26
  have gG := gG.below hb26
  have gH := gH.below hb26
  have hB26 := hB25.trans (hb26.mono hB25.size)
  rw [← hM]
  go_wp2
  go_ret
  exact ⟨rfl, hB26⟩
end Go.Proofs.YtedjclnojocjkaaGreatDoor.FnExactPutPartW
