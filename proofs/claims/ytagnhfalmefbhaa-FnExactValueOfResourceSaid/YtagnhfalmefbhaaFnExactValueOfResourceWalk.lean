/-
  The law FnExactValueOfResource returns true, and leaves what was there as it was.
  Conditions: the arguments can be read.
-/
import Derived.Test.YtagnhfalmefbhaaVisitS
import Derived.Test.YtagnhfalmefbhaaVisitI
import Derived.Deep.CutBlock
import Derived.Deep.DeepCutAuto
import Derived.Deep.RegionHeld3
namespace Go.Proofs.Ytagnhfalmefbhaa.FnExactValueOfResourceW
open Go Go.RowKit Go.Proofs.Ytagnhfalmefbhaa.Mem Go.Proofs.Ytagnhfalmefbhaa.Gen Go.Proofs.Ytagnhfalmefbhaa.Visits Go.Proofs.Ytagnhfalmefbhaa.Sites
set_option linter.unusedVariables false

set_option maxHeartbeats 4000000 in
set_option maxRecDepth 100000 in
theorem law_walk (PR : TResource) (aR1 : Option Addr) (cR1 : Nat) (w : World) (bR0 : (Lit.int .i64 PR.f0).wf = true) (bR2 : (Lit.int .i64 PR.f2.f0).wf = true) (bR3 : (Lit.int .i64 PR.f2.f1).wf = true) (bR4 : (Lit.int .i64 PR.f2.f2).wf = true) (fR1 : Lies 0 w.heap.size w (ints PR.f1) (.slice aR1 PR.f1.length cR1)) :
    Calls Try.prog 5 #[(Value.agg #[.int .i64 PR.f0, .slice aR1 PR.f1.length cR1, .int .i64 PR.f2.f0, .int .i64 PR.f2.f1, .int .i64 PR.f2.f2])] w fun e w' => e = .returned (.bool true) ∧ Below w.heap.size w w' := by
  have hB0 : Below w.heap.size w (w.alloc (.cells #[Value.int .i64 PR.f0, .slice aR1 PR.f1.length cR1, .int .i64 PR.f2.f0, .int .i64 PR.f2.f1, .int .i64 PR.f2.f2] 52)) := by repeat' (first | exact Below.refl _ _ | assumption | refine Below.setCell ?_ ?_ _ | refine Below.alloc ?_ ?_ _ | refine Gen.gbelow_drewN ?_ _ | refine Below.drew ?_ | exact Nat.le_refl _ | omega | (dsimp only; omega) | refine Gen.gle_alloc ?_ | refine Gen.gle_set ?_ | refine Gen.gle_drewN ?_ | refine Gen.gle_drew ?_)
  have hs0 : (w.alloc (.cells #[Value.int .i64 PR.f0, .slice aR1 PR.f1.length cR1, .int .i64 PR.f2.f0, .int .i64 PR.f2.f1, .int .i64 PR.f2.f2] 52)).heap.size = w.heap.size + 1 := by simp only [gsize_alloc]
  have kR : Blk 52 (w.heap.size) [Value.int .i64 PR.f0, .slice aR1 PR.f1.length cR1, .int .i64 PR.f2.f0, .int .i64 PR.f2.f1, .int .i64 PR.f2.f2] (w.alloc (.cells #[Value.int .i64 PR.f0, .slice aR1 PR.f1.length cR1, .int .i64 PR.f2.f0, .int .i64 PR.f2.f1, .int .i64 PR.f2.f2] 52)) := by
    have q := Blk.new 52 [Value.int .i64 PR.f0, .slice aR1 PR.f1.length cR1, .int .i64 PR.f2.f0, .int .i64 PR.f2.f1, .int .i64 PR.f2.f2] w
    exact q
  have fR1 := fR1.below hB0
  go_enter Try.func5, Try.ntmps5
  have cbR0 : (w.alloc (.cells #[Value.int .i64 PR.f0, .slice aR1 PR.f1.length cR1, .int .i64 PR.f2.f0, .int .i64 PR.f2.f1, .int .i64 PR.f2.f2] 52)).cell? ⟨w.heap.size, 0, none⟩ = some (.int .i64 PR.f0) := kR.at rfl
  have cbR1 : (w.alloc (.cells #[Value.int .i64 PR.f0, .slice aR1 PR.f1.length cR1, .int .i64 PR.f2.f0, .int .i64 PR.f2.f1, .int .i64 PR.f2.f2] 52)).cell? ⟨w.heap.size, 1, none⟩ = some (.slice aR1 PR.f1.length cR1) := kR.at rfl
  have cbR2 : (w.alloc (.cells #[Value.int .i64 PR.f0, .slice aR1 PR.f1.length cR1, .int .i64 PR.f2.f0, .int .i64 PR.f2.f1, .int .i64 PR.f2.f2] 52)).cell? ⟨w.heap.size, 2, none⟩ = some (.int .i64 PR.f2.f0) := kR.at rfl
  have cbR3 : (w.alloc (.cells #[Value.int .i64 PR.f0, .slice aR1 PR.f1.length cR1, .int .i64 PR.f2.f0, .int .i64 PR.f2.f1, .int .i64 PR.f2.f2] 52)).cell? ⟨w.heap.size, 3, none⟩ = some (.int .i64 PR.f2.f1) := kR.at rfl
  have cbR4 : (w.alloc (.cells #[Value.int .i64 PR.f0, .slice aR1 PR.f1.length cR1, .int .i64 PR.f2.f0, .int .i64 PR.f2.f1, .int .i64 PR.f2.f2] 52)).cell? ⟨w.heap.size, 4, none⟩ = some (.int .i64 PR.f2.f2) := kR.at rfl
  go_wp2_with fail
  go_at_call 20
  refine Calls.mono (gsz_Resource (lo := 0) (hi := w.heap.size) PR fR1 hB0.size 1048576 (by omega) (by omega)) ?_
  rintro e w1 ⟨rfl, hb1⟩
  have hs1 : (w.alloc (.cells #[Value.int .i64 PR.f0, .slice aR1 PR.f1.length cR1, .int .i64 PR.f2.f0, .int .i64 PR.f2.f1, .int .i64 PR.f2.f2] 52)).heap.size ≤ w1.heap.size := hb1.size
  have fR1 := fR1.below hb1
  have kR := kR.below hb1
  have hB1 := hB0.trans (hb1.mono hB0.size)
  clear hb1
  have hl1 := left_cases 1048576 (room (ints PR.f1)) (by omega)
  obtain ⟨L1, hL1⟩ : ∃ L, left 1048576 (room (ints PR.f1)) = L := ⟨_, rfl⟩
  rw [hL1] at hl1 ⊢
  rcases hl1 with ⟨rfl, hl1⟩ | ⟨hl1, gl1⟩
  · go_wp2
    go_ret
    exact ⟨rfl, hB1⟩
  have dl1 : decide (L1 < 0) = false := by simp; omega
  have ml1 : L1 ≤ 1048576 := by omega
  have rmR1 : room (ints PR.f1) ≤ 1048576 := by omega
  clear hl1 hL1
  have m1 : PR.f1.length ≤ 1048576 := by have h0 := rmR1; rw [room_ints] at h0; exact h0
  obtain ⟨Q, hQ⟩ : ∃ Q : Int, valueR PR = Q := ⟨_, rfl⟩
  have hS : ∀ (W : World) (loR1 hiR1 : Nat) (aR1 : Option Addr) (cR1 : Nat), Lies loR1 hiR1 W (ints PR.f1) (.slice aR1 PR.f1.length cR1) → hiR1 ≤ W.heap.size → Calls Try.prog 21 #[(Value.agg #[.int .i64 PR.f0, .slice aR1 PR.f1.length cR1, .int .i64 PR.f2.f0, .int .i64 PR.f2.f1, .int .i64 PR.f2.f2])] W (fun e w' => e = .returned (.int .i64 Q) ∧ Below W.heap.size W w') := by
    intro W loR1 hiR1 aR1 cR1 hR1 sR1
    rw [← hQ]
    exact value_spec loR1 hiR1 PR W aR1 cR1 hR1 sR1 m1
  have hI : ∀ (W : World) (loR1 hiR1 : Nat) (aR1 : Option Addr) (cR1 : Nat), Lies loR1 hiR1 W (ints PR.f1) (.slice aR1 PR.f1.length cR1) → hiR1 ≤ W.heap.size → Calls Try.prog 15 #[(Value.agg #[.int .i64 PR.f0, .slice aR1 PR.f1.length cR1, .int .i64 PR.f2.f0, .int .i64 PR.f2.f1, .int .i64 PR.f2.f2])] W (fun e w' => e = .returned (.int .i64 Q) ∧ Below W.heap.size W w') := by
    intro W loR1 hiR1 aR1 cR1 hR1 sR1
    rw [← hQ]
    exact implV.value loR1 hiR1 PR W aR1 cR1 hR1 sR1 m1
  clear hQ
  go_upto_region 5 with fail
  go_cut [4] (fun s0 wx => ∃ (V : World) , V = wx ∧ s0 = .int .i64 Q ∧ Below w1.heap.size w1 V)
  case first =>
    have hq0 : w.heap.size ≤ w1.heap.size := hB1.size
    have hW0 : Below w1.heap.size w1 w1 := Below.refl _ _
    have ee0 : Below w1.heap.size w1 w1 := Below.refl _ _
    have cbR0 : w1.cell? ⟨w.heap.size, 0, none⟩ = some (.int .i64 PR.f0) := kR.at rfl
    have cbR1 : w1.cell? ⟨w.heap.size, 1, none⟩ = some (.slice aR1 PR.f1.length cR1) := kR.at rfl
    have cbR2 : w1.cell? ⟨w.heap.size, 2, none⟩ = some (.int .i64 PR.f2.f0) := kR.at rfl
    have cbR3 : w1.cell? ⟨w.heap.size, 3, none⟩ = some (.int .i64 PR.f2.f1) := kR.at rfl
    have cbR4 : w1.cell? ⟨w.heap.size, 4, none⟩ = some (.int .i64 PR.f2.f2) := kR.at rfl
    go_wp2_with fail
    go_at_call 22
    refine Calls.mono (gto_Resource (lo := 0) (hi := w.heap.size) PR (fR1.below (w := w1) ee0) (Nat.le_trans hq0 (Below.size (B := w1.heap.size) (w := w1) ee0)) (by omega)) ?_
    rintro e u1 ⟨XR1, YR1, rfl, ho1, hb⟩
    have hv1 : Below w1.heap.size w1 u1 := Below.trans (show Below w1.heap.size w1 _ from ee0) (hb.mono (Below.size (B := w1.heap.size) (w := w1) ee0))
    have fR1 := fR1.below hv1
    have kR := kR.below hv1
    have qR1 := Owns.lies (lo := 0) (hi := u1.heap.size) ho1 (fun t h => ⟨Nat.zero_le _, by have := h.2; omega⟩)
    clear ho1
    have hq1 := Nat.le_trans hq0 hv1.size
    have hz1 := hv1.size
    have ee1 : Below u1.heap.size u1 u1 := Below.refl _ _
    have hW1 := hW0.trans (hv1.mono hW0.size)
    have s3 : u1.cell? ⟨w.heap.size, 0, none⟩ = some (.int .i64 PR.f0) ∧ u1.cell? ⟨w.heap.size, 1, none⟩ = some (.slice aR1 PR.f1.length cR1) ∧ u1.cell? ⟨w.heap.size, 2, none⟩ = some (.int .i64 PR.f2.f0) ∧ u1.cell? ⟨w.heap.size, 3, none⟩ = some (.int .i64 PR.f2.f1) ∧ u1.cell? ⟨w.heap.size, 4, none⟩ = some (.int .i64 PR.f2.f2) := ⟨(kR).at rfl, (kR).at rfl, (kR).at rfl, (kR).at rfl, (kR).at rfl⟩
    clear hb
    have cbR0 : u1.cell? ⟨w.heap.size, 0, none⟩ = some (.int .i64 PR.f0) := kR.at rfl
    have cbR1 : u1.cell? ⟨w.heap.size, 1, none⟩ = some (.slice aR1 PR.f1.length cR1) := kR.at rfl
    have cbR2 : u1.cell? ⟨w.heap.size, 2, none⟩ = some (.int .i64 PR.f2.f0) := kR.at rfl
    have cbR3 : u1.cell? ⟨w.heap.size, 3, none⟩ = some (.int .i64 PR.f2.f1) := kR.at rfl
    have cbR4 : u1.cell? ⟨w.heap.size, 4, none⟩ = some (.int .i64 PR.f2.f2) := kR.at rfl
    go_wp2_with fail
    go_at_call 21
    refine Calls.mono (hS _ _ _ _ _ (Lies.below (w := u1) qR1 ee1) (Nat.le_trans (by omega) (Below.size (B := u1.heap.size) (w := u1) ee1))) ?_
    rintro e u2 ⟨rfl, hb⟩
    have hv2 : Below u1.heap.size u1 u2 := Below.trans (show Below u1.heap.size u1 _ from ee1) (hb.mono (Below.size (B := u1.heap.size) (w := u1) ee1))
    have qR1 := Lies.below qR1 hv2
    have fR1 := fR1.below hv2
    have kR := kR.below hv2
    have hq2 := Nat.le_trans hq1 hv2.size
    have hz2 := hv2.size
    have ee2 : Below u2.heap.size u2 u2 := Below.refl _ _
    have hW2 := hW1.trans (hv2.mono hW1.size)
    have s3 : u2.cell? ⟨w.heap.size, 0, none⟩ = some (.int .i64 PR.f0) ∧ u2.cell? ⟨w.heap.size, 1, none⟩ = some (.slice aR1 PR.f1.length cR1) ∧ u2.cell? ⟨w.heap.size, 2, none⟩ = some (.int .i64 PR.f2.f0) ∧ u2.cell? ⟨w.heap.size, 3, none⟩ = some (.int .i64 PR.f2.f1) ∧ u2.cell? ⟨w.heap.size, 4, none⟩ = some (.int .i64 PR.f2.f2) := ⟨(kR).at rfl, (kR).at rfl, (kR).at rfl, (kR).at rfl, (kR).at rfl⟩
    clear hb
    have cbR0 : u2.cell? ⟨w.heap.size, 0, none⟩ = some (.int .i64 PR.f0) := kR.at rfl
    have cbR1 : u2.cell? ⟨w.heap.size, 1, none⟩ = some (.slice aR1 PR.f1.length cR1) := kR.at rfl
    have cbR2 : u2.cell? ⟨w.heap.size, 2, none⟩ = some (.int .i64 PR.f2.f0) := kR.at rfl
    have cbR3 : u2.cell? ⟨w.heap.size, 3, none⟩ = some (.int .i64 PR.f2.f1) := kR.at rfl
    have cbR4 : u2.cell? ⟨w.heap.size, 4, none⟩ = some (.int .i64 PR.f2.f2) := kR.at rfl
    go_wp2_with fail
    go_meet
    case rel => exact ⟨_, rfl, rfl, hW2⟩
  case rest =>
  obtain ⟨w2, rfl, rfl, hb2⟩ := hcut
  have hs2 : w1.heap.size ≤ w2.heap.size := hb2.size
  have fR1 := fR1.below hb2
  have kR := kR.below hb2
  have hB2 := hB1.trans (hb2.mono hB1.size)
  clear hb2
  go_upto_region 6 with fail
  go_cut [5] (fun s0 wx => ∃ (V : World) (bR : Nat) (xR1 : Option Addr) (yR1 : Nat) (SR1 : Nat → Prop), V = wx ∧ s0 = .pointer (some ⟨bR, 0, none⟩) ∧ Blk 39 bR [Value.int .i64 PR.f0, .slice xR1 PR.f1.length yR1, .int .i64 PR.f2.f0, .int .i64 PR.f2.f1, .int .i64 PR.f2.f2] V ∧ (w.heap.size + 1 ≤ bR) ∧ bR < V.heap.size ∧ (w2.heap.size ≤ bR) ∧ Owns V (ints PR.f1) (.slice xR1 PR.f1.length yR1) SR1 ∧ (∀ t, SR1 t → w2.heap.size ≤ t ∧ t < V.heap.size) ∧ ¬ SR1 bR ∧ Below w2.heap.size w2 V)
  case first =>
    have cbR0 : w2.cell? ⟨w.heap.size, 0, none⟩ = some (.int .i64 PR.f0) := kR.at rfl
    have cbR1 : w2.cell? ⟨w.heap.size, 1, none⟩ = some (.slice aR1 PR.f1.length cR1) := kR.at rfl
    have cbR2 : w2.cell? ⟨w.heap.size, 2, none⟩ = some (.int .i64 PR.f2.f0) := kR.at rfl
    have cbR3 : w2.cell? ⟨w.heap.size, 3, none⟩ = some (.int .i64 PR.f2.f1) := kR.at rfl
    have cbR4 : w2.cell? ⟨w.heap.size, 4, none⟩ = some (.int .i64 PR.f2.f2) := kR.at rfl
    go_wp2_with fail
    go_at_call 22
    refine Calls.mono (gto_Resource (lo := 0) (hi := w.heap.size) PR fR1 hB2.size (by omega)) ?_
    rintro e u1 ⟨x1, y1, rfl, ho1, hb⟩
    have hz := hb.size
    go_wp2_with fail
    go_meet
    case rel => exact ⟨_, _, _, _, Span (w2.heap.size) (u1.heap.size), rfl, rfl, Blk.new _ [Value.int .i64 PR.f0, .slice x1 PR.f1.length y1, .int .i64 PR.f2.f0, .int .i64 PR.f2.f1, .int .i64 PR.f2.f2] u1, (by omega), (by rw [gsize_alloc]; omega), (by omega), (Owns.below ho1 ((Below.refl _ _).alloc (Nat.le_refl _) _)), (fun t h => ⟨by have := h.1; omega, by have := h.2; rw [gsize_alloc]; omega⟩), (fun h => by have := h.2; omega), (hb.alloc hb.size _)⟩
  case rest =>
  obtain ⟨w3, bxR, xxR1, yxR1, SxR1, rfl, rfl, BxR, lbxR, ubxR, mbxR, rxR1, urxR1, nbxR1_R, hb3⟩ := hcut
  have hs3 : w2.heap.size ≤ w3.heap.size := hb3.size
  have fR1 := fR1.below hb3
  have kR := kR.below hb3
  have hB3 := hB2.trans (hb3.mono hB2.size)
  clear hb3
  go_upto_region 7 with fail
  go_cut [6] (fun s0 wx => ∃ (V : World) , V = wx ∧ s0 = .int .i64 Q ∧ Below w3.heap.size w3 V)
  case first =>
    have hq0 : w.heap.size ≤ w3.heap.size := hB3.size
    have hW0 : Below w3.heap.size w3 w3 := Below.refl _ _
    have ee0 : Below w3.heap.size w3 w3 := Below.refl _ _
    have cxR0 : w3.cell? ⟨bxR, 0, none⟩ = some (.int .i64 PR.f0) := BxR.at rfl
    have cxR1 : w3.cell? ⟨bxR, 1, none⟩ = some (.slice xxR1 PR.f1.length yxR1) := BxR.at rfl
    have cxR2 : w3.cell? ⟨bxR, 2, none⟩ = some (.int .i64 PR.f2.f0) := BxR.at rfl
    have cxR3 : w3.cell? ⟨bxR, 3, none⟩ = some (.int .i64 PR.f2.f1) := BxR.at rfl
    have cxR4 : w3.cell? ⟨bxR, 4, none⟩ = some (.int .i64 PR.f2.f2) := BxR.at rfl
    go_wp2_with fail
    go_at_call 15
    refine Calls.mono (hI _ _ _ _ _ (Lies.below (w := w3) (Owns.lies rxR1 (hi := w3.heap.size) (lo := 0) (fun t h => ⟨Nat.zero_le _, by have := urxR1 t h; omega⟩)) ee0) (Nat.le_trans (by omega) (Below.size (B := w3.heap.size) (w := w3) ee0))) ?_
    rintro e u1 ⟨rfl, hb⟩
    have hv1 : Below w3.heap.size w3 u1 := Below.trans (show Below w3.heap.size w3 _ from ee0) (hb.mono (Below.size (B := w3.heap.size) (w := w3) ee0))
    have fR1 := fR1.below hv1
    have kR := kR.below hv1
    have BxR := BxR.below hv1
    have rxR1 := Owns.below rxR1 hv1
    have hq1 := Nat.le_trans hq0 hv1.size
    have hz1 := hv1.size
    have ee1 : Below u1.heap.size u1 u1 := Below.refl _ _
    have hW1 := hW0.trans (hv1.mono hW0.size)
    have s3 : u1.cell? ⟨bxR, 0, none⟩ = some (.int .i64 PR.f0) ∧ u1.cell? ⟨bxR, 1, none⟩ = some (.slice xxR1 PR.f1.length yxR1) ∧ u1.cell? ⟨bxR, 2, none⟩ = some (.int .i64 PR.f2.f0) ∧ u1.cell? ⟨bxR, 3, none⟩ = some (.int .i64 PR.f2.f1) ∧ u1.cell? ⟨bxR, 4, none⟩ = some (.int .i64 PR.f2.f2) := ⟨(BxR).at rfl, (BxR).at rfl, (BxR).at rfl, (BxR).at rfl, (BxR).at rfl⟩
    clear hb
    have cxR0 : u1.cell? ⟨bxR, 0, none⟩ = some (.int .i64 PR.f0) := BxR.at rfl
    have cxR1 : u1.cell? ⟨bxR, 1, none⟩ = some (.slice xxR1 PR.f1.length yxR1) := BxR.at rfl
    have cxR2 : u1.cell? ⟨bxR, 2, none⟩ = some (.int .i64 PR.f2.f0) := BxR.at rfl
    have cxR3 : u1.cell? ⟨bxR, 3, none⟩ = some (.int .i64 PR.f2.f1) := BxR.at rfl
    have cxR4 : u1.cell? ⟨bxR, 4, none⟩ = some (.int .i64 PR.f2.f2) := BxR.at rfl
    go_wp2_with fail
    go_meet
    case rel => exact ⟨_, rfl, rfl, hW1⟩
  case rest =>
  obtain ⟨w4, rfl, rfl, hb4⟩ := hcut
  have hs4 : w3.heap.size ≤ w4.heap.size := hb4.size
  have fR1 := fR1.below hb4
  have kR := kR.below hb4
  have rxR1 := Owns.below rxR1 hb4
  have BxR := BxR.below hb4
  have hB4 := hB3.trans (hb4.mono hB3.size)
  clear hb4
  go_upto_region 10 with fail
  go_cut [26] (fun s0 wx => ∃ (V : World), V = wx ∧ s0 = .bool false ∧ Below w4.heap.size w4 V)
  case first =>
    have hq0 : w.heap.size ≤ w4.heap.size := hB4.size
    have hW0 : Below w4.heap.size w4 w4 := Below.refl _ _
    have ee0 : Below w4.heap.size w4 w4 := Below.refl _ _
    have ed0 : Below w4.heap.size w4 w4.drew := (Below.refl _ _).drew
    have s3 : w4.drew.cell? ⟨w.heap.size, 0, none⟩ = some (.int .i64 PR.f0) ∧ w4.drew.cell? ⟨w.heap.size, 1, none⟩ = some (.slice aR1 PR.f1.length cR1) ∧ w4.drew.cell? ⟨w.heap.size, 2, none⟩ = some (.int .i64 PR.f2.f0) ∧ w4.drew.cell? ⟨w.heap.size, 3, none⟩ = some (.int .i64 PR.f2.f1) ∧ w4.drew.cell? ⟨w.heap.size, 4, none⟩ = some (.int .i64 PR.f2.f2) ∧ w4.drew.cell? ⟨bxR, 0, none⟩ = some (.int .i64 PR.f0) ∧ w4.drew.cell? ⟨bxR, 1, none⟩ = some (.slice xxR1 PR.f1.length yxR1) ∧ w4.drew.cell? ⟨bxR, 2, none⟩ = some (.int .i64 PR.f2.f0) ∧ w4.drew.cell? ⟨bxR, 3, none⟩ = some (.int .i64 PR.f2.f1) ∧ w4.drew.cell? ⟨bxR, 4, none⟩ = some (.int .i64 PR.f2.f2) := ⟨(Blk.drew kR).at rfl, (Blk.drew kR).at rfl, (Blk.drew kR).at rfl, (Blk.drew kR).at rfl, (Blk.drew kR).at rfl, (Blk.drew BxR).at rfl, (Blk.drew BxR).at rfl, (Blk.drew BxR).at rfl, (Blk.drew BxR).at rfl, (Blk.drew BxR).at rfl⟩
    go_wp2_with fail
    go_region_held3 (fun w' => w'.cell? ⟨w.heap.size, 0, none⟩ = some (.int .i64 PR.f0) ∧ w'.cell? ⟨w.heap.size, 1, none⟩ = some (.slice aR1 PR.f1.length cR1) ∧ w'.cell? ⟨w.heap.size, 2, none⟩ = some (.int .i64 PR.f2.f0) ∧ w'.cell? ⟨w.heap.size, 3, none⟩ = some (.int .i64 PR.f2.f1) ∧ w'.cell? ⟨w.heap.size, 4, none⟩ = some (.int .i64 PR.f2.f2) ∧ w'.cell? ⟨bxR, 0, none⟩ = some (.int .i64 PR.f0) ∧ w'.cell? ⟨bxR, 1, none⟩ = some (.slice xxR1 PR.f1.length yxR1) ∧ w'.cell? ⟨bxR, 2, none⟩ = some (.int .i64 PR.f2.f0) ∧ w'.cell? ⟨bxR, 3, none⟩ = some (.int .i64 PR.f2.f1) ∧ w'.cell? ⟨bxR, 4, none⟩ = some (.int .i64 PR.f2.f2))
      (first | (with_reducible exact s3) | go_keep)
      (first
      | (go_at_call 22; refine Calls.mono (gto_Resource (lo := 0) (hi := w.heap.size) PR (fR1.below (w := w4) (by first | (with_reducible exact ee0) | (with_reducible exact ed0))) (Nat.le_trans hq0 (Below.size (B := w4.heap.size) (w := w4) (by first | (with_reducible exact ee0) | (with_reducible exact ed0)))) (by omega)) ?_; rintro e u1 ⟨XR1, YR1, rfl, ho1, hb⟩; have hv1 : Below w4.heap.size w4 u1 := Below.trans (show Below w4.heap.size w4 _ from (by first | (with_reducible exact ee0) | (with_reducible exact ed0))) (hb.mono (Below.size (B := w4.heap.size) (w := w4) (by first | (with_reducible exact ee0) | (with_reducible exact ed0)))); have fR1 := fR1.below hv1; have kR := kR.below hv1; have BxR := BxR.below hv1; have rxR1 := Owns.below rxR1 hv1; have qR1 := Owns.lies (lo := 0) (hi := u1.heap.size) ho1 (fun t h => ⟨Nat.zero_le _, by have := h.2; omega⟩); clear ho1; have hq1 := Nat.le_trans hq0 hv1.size; have hz1 := hv1.size; have ee1 : Below u1.heap.size u1 u1 := Below.refl _ _; have ed1 := ee1; have hW1 := hW0.trans (hv1.mono hW0.size); have s3 : u1.cell? ⟨w.heap.size, 0, none⟩ = some (.int .i64 PR.f0) ∧ u1.cell? ⟨w.heap.size, 1, none⟩ = some (.slice aR1 PR.f1.length cR1) ∧ u1.cell? ⟨w.heap.size, 2, none⟩ = some (.int .i64 PR.f2.f0) ∧ u1.cell? ⟨w.heap.size, 3, none⟩ = some (.int .i64 PR.f2.f1) ∧ u1.cell? ⟨w.heap.size, 4, none⟩ = some (.int .i64 PR.f2.f2) ∧ u1.cell? ⟨bxR, 0, none⟩ = some (.int .i64 PR.f0) ∧ u1.cell? ⟨bxR, 1, none⟩ = some (.slice xxR1 PR.f1.length yxR1) ∧ u1.cell? ⟨bxR, 2, none⟩ = some (.int .i64 PR.f2.f0) ∧ u1.cell? ⟨bxR, 3, none⟩ = some (.int .i64 PR.f2.f1) ∧ u1.cell? ⟨bxR, 4, none⟩ = some (.int .i64 PR.f2.f2) := ⟨(kR).at rfl, (kR).at rfl, (kR).at rfl, (kR).at rfl, (kR).at rfl, (BxR).at rfl, (BxR).at rfl, (BxR).at rfl, (BxR).at rfl, (BxR).at rfl⟩; clear hb)
      | (go_at_call 23; refine Calls.mono (geq_Resource PR (Lies.below (w := u1) (Owns.lies rxR1 (lo := 0) (hi := u1.heap.size) (fun t h => ⟨Nat.zero_le _, by have := urxR1 t h; omega⟩)) (by first | (with_reducible exact ee1) | (with_reducible exact ed1))) (Lies.below (w := u1) qR1 (by first | (with_reducible exact ee1) | (with_reducible exact ed1))) (Below.size (B := u1.heap.size) (w := u1) (by first | (with_reducible exact ee1) | (with_reducible exact ed1))) (Below.size (B := u1.heap.size) (w := u1) (by first | (with_reducible exact ee1) | (with_reducible exact ed1)))) ?_; rintro e u2 ⟨rfl, hb⟩; have hv2 : Below u1.heap.size u1 u2 := Below.trans (show Below u1.heap.size u1 _ from (by first | (with_reducible exact ee1) | (with_reducible exact ed1))) (hb.mono (Below.size (B := u1.heap.size) (w := u1) (by first | (with_reducible exact ee1) | (with_reducible exact ed1)))); have fR1 := fR1.below hv2; have kR := kR.below hv2; have BxR := BxR.below hv2; have rxR1 := Owns.below rxR1 hv2; have hq2 := Nat.le_trans hq1 hv2.size; have hz2 := hv2.size; have ee2 : Below u2.heap.size u2 u2 := Below.refl _ _; have ed2 := ee2; have hW2 := hW1.trans (hv2.mono hW1.size); have s3 : u2.cell? ⟨w.heap.size, 0, none⟩ = some (.int .i64 PR.f0) ∧ u2.cell? ⟨w.heap.size, 1, none⟩ = some (.slice aR1 PR.f1.length cR1) ∧ u2.cell? ⟨w.heap.size, 2, none⟩ = some (.int .i64 PR.f2.f0) ∧ u2.cell? ⟨w.heap.size, 3, none⟩ = some (.int .i64 PR.f2.f1) ∧ u2.cell? ⟨w.heap.size, 4, none⟩ = some (.int .i64 PR.f2.f2) ∧ u2.cell? ⟨bxR, 0, none⟩ = some (.int .i64 PR.f0) ∧ u2.cell? ⟨bxR, 1, none⟩ = some (.slice xxR1 PR.f1.length yxR1) ∧ u2.cell? ⟨bxR, 2, none⟩ = some (.int .i64 PR.f2.f0) ∧ u2.cell? ⟨bxR, 3, none⟩ = some (.int .i64 PR.f2.f1) ∧ u2.cell? ⟨bxR, 4, none⟩ = some (.int .i64 PR.f2.f2) := ⟨(kR).at rfl, (kR).at rfl, (kR).at rfl, (kR).at rfl, (kR).at rfl, (BxR).at rfl, (BxR).at rfl, (BxR).at rfl, (BxR).at rfl, (BxR).at rfl⟩; clear hb)
      )
    all_goals
      go_wp2_with fail
      go_meet
      case rel => exact ⟨_, rfl, rfl, hW2⟩
  case rest =>
  obtain ⟨w5, rfl, rfl, hb5⟩ := hcut
  have hs5 : w4.heap.size ≤ w5.heap.size := hb5.size
  have fR1 := fR1.below hb5
  have kR := kR.below hb5
  have rxR1 := Owns.below rxR1 hb5
  have BxR := BxR.below hb5
  have hB5 := hB4.trans (hb5.mono hB4.size)
  clear hb5
  go_wp2
  go_ret
  exact ⟨rfl, hB5⟩
end Go.Proofs.Ytagnhfalmefbhaa.FnExactValueOfResourceW
