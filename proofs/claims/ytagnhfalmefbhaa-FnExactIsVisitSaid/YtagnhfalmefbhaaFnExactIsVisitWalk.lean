/-
  The law FnExactIsVisit returns true, and leaves what was there as it was.
  Conditions: the arguments can be read.
-/
import Derived.Test.YtagnhfalmefbhaaVisitS
import Derived.Test.YtagnhfalmefbhaaVisitI
import Derived.Deep.CutBlock
import Derived.Deep.DeepCutAuto
import Derived.Deep.RegionHeld3
namespace Go.Proofs.Ytagnhfalmefbhaa.FnExactIsVisitW
open Go Go.RowKit Go.Proofs.Ytagnhfalmefbhaa.Mem Go.Proofs.Ytagnhfalmefbhaa.Gen Go.Proofs.Ytagnhfalmefbhaa.Visits Go.Proofs.Ytagnhfalmefbhaa.Sites
set_option linter.unusedVariables false

set_option maxHeartbeats 4000000 in
set_option maxRecDepth 100000 in
theorem law_walk (PV : TVisit) (aV0 : Option Addr) (cV0 : Nat) (aV3 : Option Addr) (cV3 : Nat) (w : World) (bV1 : (Lit.int .i64 PV.f1).wf = true) (bV2 : (Lit.int .i64 PV.f2).wf = true) (fV0 : Lies 0 w.heap.size w (dVersion PV.f0) (.slice aV0 PV.f0.length cV0)) (fV3 : Lies 0 w.heap.size w (ints PV.f3) (.slice aV3 PV.f3.length cV3)) :
    Calls Try.prog 4 #[(Value.agg #[.slice aV0 PV.f0.length cV0, .int .i64 PV.f1, .int .i64 PV.f2, .slice aV3 PV.f3.length cV3])] w fun e w' => e = .returned (.bool true) ∧ Below w.heap.size w w' := by
  have hB0 : Below w.heap.size w (w.alloc (.cells #[Value.slice aV0 PV.f0.length cV0, .int .i64 PV.f1, .int .i64 PV.f2, .slice aV3 PV.f3.length cV3] 45)) := by repeat' (first | exact Below.refl _ _ | assumption | refine Below.setCell ?_ ?_ _ | refine Below.alloc ?_ ?_ _ | refine Gen.gbelow_drewN ?_ _ | refine Below.drew ?_ | exact Nat.le_refl _ | omega | (dsimp only; omega) | refine Gen.gle_alloc ?_ | refine Gen.gle_set ?_ | refine Gen.gle_drewN ?_ | refine Gen.gle_drew ?_)
  have hs0 : (w.alloc (.cells #[Value.slice aV0 PV.f0.length cV0, .int .i64 PV.f1, .int .i64 PV.f2, .slice aV3 PV.f3.length cV3] 45)).heap.size = w.heap.size + 1 := by simp only [gsize_alloc]
  have kV : Blk 45 (w.heap.size) [Value.slice aV0 PV.f0.length cV0, .int .i64 PV.f1, .int .i64 PV.f2, .slice aV3 PV.f3.length cV3] (w.alloc (.cells #[Value.slice aV0 PV.f0.length cV0, .int .i64 PV.f1, .int .i64 PV.f2, .slice aV3 PV.f3.length cV3] 45)) := by
    have q := Blk.new 45 [Value.slice aV0 PV.f0.length cV0, .int .i64 PV.f1, .int .i64 PV.f2, .slice aV3 PV.f3.length cV3] w
    exact q
  have fV0 := fV0.below hB0
  have fV3 := fV3.below hB0
  go_enter Try.func4, Try.ntmps4
  have cbV0 : (w.alloc (.cells #[Value.slice aV0 PV.f0.length cV0, .int .i64 PV.f1, .int .i64 PV.f2, .slice aV3 PV.f3.length cV3] 45)).cell? ⟨w.heap.size, 0, none⟩ = some (.slice aV0 PV.f0.length cV0) := kV.at rfl
  have cbV1 : (w.alloc (.cells #[Value.slice aV0 PV.f0.length cV0, .int .i64 PV.f1, .int .i64 PV.f2, .slice aV3 PV.f3.length cV3] 45)).cell? ⟨w.heap.size, 1, none⟩ = some (.int .i64 PV.f1) := kV.at rfl
  have cbV2 : (w.alloc (.cells #[Value.slice aV0 PV.f0.length cV0, .int .i64 PV.f1, .int .i64 PV.f2, .slice aV3 PV.f3.length cV3] 45)).cell? ⟨w.heap.size, 2, none⟩ = some (.int .i64 PV.f2) := kV.at rfl
  have cbV3 : (w.alloc (.cells #[Value.slice aV0 PV.f0.length cV0, .int .i64 PV.f1, .int .i64 PV.f2, .slice aV3 PV.f3.length cV3] 45)).cell? ⟨w.heap.size, 3, none⟩ = some (.slice aV3 PV.f3.length cV3) := kV.at rfl
  go_wp2_with fail
  go_at_call 17
  refine Calls.mono (gsz_Visit (lo := 0) (hi := w.heap.size) PV fV0 fV3 hB0.size 1048576 (by omega) (by omega)) ?_
  rintro e w1 ⟨rfl, hb1⟩
  have hs1 : (w.alloc (.cells #[Value.slice aV0 PV.f0.length cV0, .int .i64 PV.f1, .int .i64 PV.f2, .slice aV3 PV.f3.length cV3] 45)).heap.size ≤ w1.heap.size := hb1.size
  have fV0 := fV0.below hb1
  have fV3 := fV3.below hb1
  have kV := kV.below hb1
  have hB1 := hB0.trans (hb1.mono hB0.size)
  clear hb1
  have hl1 := left_cases 1048576 (room (dVersion PV.f0) + room (ints PV.f3)) (by omega)
  obtain ⟨L1, hL1⟩ : ∃ L, left 1048576 (room (dVersion PV.f0) + room (ints PV.f3)) = L := ⟨_, rfl⟩
  rw [hL1] at hl1 ⊢
  rcases hl1 with ⟨rfl, hl1⟩ | ⟨hl1, gl1⟩
  · go_wp2
    go_ret
    exact ⟨rfl, hB1⟩
  have dl1 : decide (L1 < 0) = false := by simp; omega
  have ml1 : L1 ≤ 1048576 := by omega
  have rmV0 : room (dVersion PV.f0) ≤ 1048576 := by omega
  have rmV3 : room (ints PV.f3) ≤ 1048576 := by omega
  clear hl1 hL1
  have m3 : PV.f3.length ≤ 1048576 := by have h0 := rmV3; rw [room_ints] at h0; exact h0
  obtain ⟨R, hR⟩ : ∃ R : Bool, visitB PV = R := ⟨_, rfl⟩
  have hS : ∀ (W : World) (loV0 hiV0 : Nat) (aV0 : Option Addr) (cV0 : Nat) (loV3 hiV3 : Nat) (aV3 : Option Addr) (cV3 : Nat), Lies loV0 hiV0 W (dVersion PV.f0) (.slice aV0 PV.f0.length cV0) → hiV0 ≤ W.heap.size → Lies loV3 hiV3 W (ints PV.f3) (.slice aV3 PV.f3.length cV3) → hiV3 ≤ W.heap.size → Calls Try.prog 12 #[(Value.agg #[.slice aV0 PV.f0.length cV0, .int .i64 PV.f1, .int .i64 PV.f2, .slice aV3 PV.f3.length cV3])] W (fun e w' => e = .returned (.bool R) ∧ Below W.heap.size W w') := by
    intro W loV0 hiV0 aV0 cV0 loV3 hiV3 aV3 cV3 hV0 sV0 hV3 sV3
    rw [← hR]
    exact visit_spec PV W aV0 cV0 aV3 cV3 (VSt.of hV0 hV3 sV0 sV3) rmV0 m3
  have hI : ∀ (W : World) (loV0 hiV0 : Nat) (aV0 : Option Addr) (cV0 : Nat) (loV3 hiV3 : Nat) (aV3 : Option Addr) (cV3 : Nat), Lies loV0 hiV0 W (dVersion PV.f0) (.slice aV0 PV.f0.length cV0) → hiV0 ≤ W.heap.size → Lies loV3 hiV3 W (ints PV.f3) (.slice aV3 PV.f3.length cV3) → hiV3 ≤ W.heap.size → Calls Try.prog 11 #[(Value.agg #[.slice aV0 PV.f0.length cV0, .int .i64 PV.f1, .int .i64 PV.f2, .slice aV3 PV.f3.length cV3])] W (fun e w' => e = .returned (.bool R) ∧ Below W.heap.size W w') := by
    intro W loV0 hiV0 aV0 cV0 loV3 hiV3 aV3 cV3 hV0 sV0 hV3 sV3
    rw [← hR]
    exact implV.visit PV W aV0 cV0 aV3 cV3 (VSt.of hV0 hV3 sV0 sV3) rmV0 m3 bV1 bV2
  clear hR
  go_upto_region 5 with fail
  go_cut [4] (fun s0 wx => ∃ (V : World) , V = wx ∧ s0 = .bool R ∧ Below w1.heap.size w1 V)
  case first =>
    have hq0 : w.heap.size ≤ w1.heap.size := hB1.size
    have hW0 : Below w1.heap.size w1 w1 := Below.refl _ _
    have ee0 : Below w1.heap.size w1 w1 := Below.refl _ _
    have cbV0 : w1.cell? ⟨w.heap.size, 0, none⟩ = some (.slice aV0 PV.f0.length cV0) := kV.at rfl
    have cbV1 : w1.cell? ⟨w.heap.size, 1, none⟩ = some (.int .i64 PV.f1) := kV.at rfl
    have cbV2 : w1.cell? ⟨w.heap.size, 2, none⟩ = some (.int .i64 PV.f2) := kV.at rfl
    have cbV3 : w1.cell? ⟨w.heap.size, 3, none⟩ = some (.slice aV3 PV.f3.length cV3) := kV.at rfl
    go_wp2_with fail
    go_at_call 18
    refine Calls.mono (gto_Visit (lo := 0) (hi := w.heap.size) PV (fV0.below (w := w1) ee0) (fV3.below (w := w1) ee0) (Nat.le_trans hq0 (Below.size (B := w1.heap.size) (w := w1) ee0)) (by omega) (by omega)) ?_
    rintro e u1 ⟨XV0, YV0, XV3, YV3, mV1, rfl, ho0, ho3, onV0, onV1, hb⟩
    have hv1 : Below w1.heap.size w1 u1 := Below.trans (show Below w1.heap.size w1 _ from ee0) (hb.mono (Below.size (B := w1.heap.size) (w := w1) ee0))
    have fV0 := fV0.below hv1
    have fV3 := fV3.below hv1
    have kV := kV.below hv1
    have qV0 := Owns.lies (lo := 0) (hi := u1.heap.size) ho0 (fun t h => ⟨Nat.zero_le _, by have := h.2; omega⟩)
    have qV3 := Owns.lies (lo := 0) (hi := u1.heap.size) ho3 (fun t h => ⟨Nat.zero_le _, by have := h.2; omega⟩)
    clear ho0 ho3 onV0 onV1
    have hq1 := Nat.le_trans hq0 hv1.size
    have hz1 := hv1.size
    have ee1 : Below u1.heap.size u1 u1 := Below.refl _ _
    have hW1 := hW0.trans (hv1.mono hW0.size)
    have s3 : u1.cell? ⟨w.heap.size, 0, none⟩ = some (.slice aV0 PV.f0.length cV0) ∧ u1.cell? ⟨w.heap.size, 1, none⟩ = some (.int .i64 PV.f1) ∧ u1.cell? ⟨w.heap.size, 2, none⟩ = some (.int .i64 PV.f2) ∧ u1.cell? ⟨w.heap.size, 3, none⟩ = some (.slice aV3 PV.f3.length cV3) := ⟨(kV).at rfl, (kV).at rfl, (kV).at rfl, (kV).at rfl⟩
    clear hb
    have cbV0 : u1.cell? ⟨w.heap.size, 0, none⟩ = some (.slice aV0 PV.f0.length cV0) := kV.at rfl
    have cbV1 : u1.cell? ⟨w.heap.size, 1, none⟩ = some (.int .i64 PV.f1) := kV.at rfl
    have cbV2 : u1.cell? ⟨w.heap.size, 2, none⟩ = some (.int .i64 PV.f2) := kV.at rfl
    have cbV3 : u1.cell? ⟨w.heap.size, 3, none⟩ = some (.slice aV3 PV.f3.length cV3) := kV.at rfl
    go_wp2_with fail
    go_at_call 12
    refine Calls.mono (hS _ _ _ _ _ _ _ _ _ (Lies.below (w := u1) qV0 ee1) (Nat.le_trans (by omega) (Below.size (B := u1.heap.size) (w := u1) ee1)) (Lies.below (w := u1) qV3 ee1) (Nat.le_trans (by omega) (Below.size (B := u1.heap.size) (w := u1) ee1))) ?_
    rintro e u2 ⟨rfl, hb⟩
    have hv2 : Below u1.heap.size u1 u2 := Below.trans (show Below u1.heap.size u1 _ from ee1) (hb.mono (Below.size (B := u1.heap.size) (w := u1) ee1))
    have qV0 := Lies.below qV0 hv2
    have qV3 := Lies.below qV3 hv2
    have fV0 := fV0.below hv2
    have fV3 := fV3.below hv2
    have kV := kV.below hv2
    have hq2 := Nat.le_trans hq1 hv2.size
    have hz2 := hv2.size
    have ee2 : Below u2.heap.size u2 u2 := Below.refl _ _
    have hW2 := hW1.trans (hv2.mono hW1.size)
    have s3 : u2.cell? ⟨w.heap.size, 0, none⟩ = some (.slice aV0 PV.f0.length cV0) ∧ u2.cell? ⟨w.heap.size, 1, none⟩ = some (.int .i64 PV.f1) ∧ u2.cell? ⟨w.heap.size, 2, none⟩ = some (.int .i64 PV.f2) ∧ u2.cell? ⟨w.heap.size, 3, none⟩ = some (.slice aV3 PV.f3.length cV3) := ⟨(kV).at rfl, (kV).at rfl, (kV).at rfl, (kV).at rfl⟩
    clear hb
    have cbV0 : u2.cell? ⟨w.heap.size, 0, none⟩ = some (.slice aV0 PV.f0.length cV0) := kV.at rfl
    have cbV1 : u2.cell? ⟨w.heap.size, 1, none⟩ = some (.int .i64 PV.f1) := kV.at rfl
    have cbV2 : u2.cell? ⟨w.heap.size, 2, none⟩ = some (.int .i64 PV.f2) := kV.at rfl
    have cbV3 : u2.cell? ⟨w.heap.size, 3, none⟩ = some (.slice aV3 PV.f3.length cV3) := kV.at rfl
    go_wp2_with fail
    go_meet
    case rel => exact ⟨_, rfl, rfl, hW2⟩
  case rest =>
  obtain ⟨w2, rfl, rfl, hb2⟩ := hcut
  have hs2 : w1.heap.size ≤ w2.heap.size := hb2.size
  have fV0 := fV0.below hb2
  have fV3 := fV3.below hb2
  have kV := kV.below hb2
  have hB2 := hB1.trans (hb2.mono hB1.size)
  clear hb2
  go_upto_region 6 with fail
  go_cut [5] (fun s0 wx => ∃ (V : World) (bV : Nat) (xV0 : Option Addr) (yV0 : Nat) (SV0 : Nat → Prop) (xV3 : Option Addr) (yV3 : Nat) (SV3 : Nat → Prop), V = wx ∧ s0 = .pointer (some ⟨bV, 0, none⟩) ∧ Blk 27 bV [Value.slice xV0 PV.f0.length yV0, .int .i64 PV.f1, .int .i64 PV.f2, .slice xV3 PV.f3.length yV3] V ∧ (w.heap.size + 1 ≤ bV) ∧ bV < V.heap.size ∧ (w2.heap.size ≤ bV) ∧ Owns V (dVersion PV.f0) (.slice xV0 PV.f0.length yV0) SV0 ∧ Owns V (ints PV.f3) (.slice xV3 PV.f3.length yV3) SV3 ∧ (∀ t, SV0 t → w2.heap.size ≤ t ∧ t < V.heap.size) ∧ (∀ t, SV3 t → w2.heap.size ≤ t ∧ t < V.heap.size) ∧ (∀ t, SV0 t → ¬ SV3 t) ∧ ¬ SV0 bV ∧ ¬ SV3 bV ∧ Below w2.heap.size w2 V)
  case first =>
    have cbV0 : w2.cell? ⟨w.heap.size, 0, none⟩ = some (.slice aV0 PV.f0.length cV0) := kV.at rfl
    have cbV1 : w2.cell? ⟨w.heap.size, 1, none⟩ = some (.int .i64 PV.f1) := kV.at rfl
    have cbV2 : w2.cell? ⟨w.heap.size, 2, none⟩ = some (.int .i64 PV.f2) := kV.at rfl
    have cbV3 : w2.cell? ⟨w.heap.size, 3, none⟩ = some (.slice aV3 PV.f3.length cV3) := kV.at rfl
    go_wp2_with fail
    go_at_call 18
    refine Calls.mono (gto_Visit (lo := 0) (hi := w.heap.size) PV fV0 fV3 hB2.size (by omega) (by omega)) ?_
    rintro e u1 ⟨x0, y0, x3, y3, m1, rfl, ho0, ho3, oo0, oo1, hb⟩
    have hz := hb.size
    go_wp2_with fail
    go_meet
    case rel => exact ⟨_, _, _, _, Span (w2.heap.size) (m1), _, _, Span (m1) (u1.heap.size), rfl, rfl, Blk.new _ [Value.slice x0 PV.f0.length y0, .int .i64 PV.f1, .int .i64 PV.f2, .slice x3 PV.f3.length y3] u1, (by omega), (by rw [gsize_alloc]; omega), (by omega), (Owns.below ho0 ((Below.refl _ _).alloc (Nat.le_refl _) _)), (Owns.below ho3 ((Below.refl _ _).alloc (Nat.le_refl _) _)), (fun t h => ⟨by have := h.1; omega, by have := h.2; rw [gsize_alloc]; omega⟩), (fun t h => ⟨by have := h.1; omega, by have := h.2; rw [gsize_alloc]; omega⟩), (fun t h h' => by have := h.2; have := h'.1; omega), (fun h => by have := h.2; omega), (fun h => by have := h.2; omega), (hb.alloc hb.size _)⟩
  case rest =>
  obtain ⟨w3, bxV, xxV0, yxV0, SxV0, xxV3, yxV3, SxV3, rfl, rfl, BxV, lbxV, ubxV, mbxV, rxV0, rxV3, urxV0, urxV3, udxV_0_1, nbxV0_V, nbxV3_V, hb3⟩ := hcut
  have hs3 : w2.heap.size ≤ w3.heap.size := hb3.size
  have fV0 := fV0.below hb3
  have fV3 := fV3.below hb3
  have kV := kV.below hb3
  have hB3 := hB2.trans (hb3.mono hB2.size)
  clear hb3
  go_upto_region 7 with fail
  go_cut [6] (fun s0 wx => ∃ (V : World) , V = wx ∧ s0 = .bool R ∧ Below w3.heap.size w3 V)
  case first =>
    have hq0 : w.heap.size ≤ w3.heap.size := hB3.size
    have hW0 : Below w3.heap.size w3 w3 := Below.refl _ _
    have ee0 : Below w3.heap.size w3 w3 := Below.refl _ _
    have cxV0 : w3.cell? ⟨bxV, 0, none⟩ = some (.slice xxV0 PV.f0.length yxV0) := BxV.at rfl
    have cxV1 : w3.cell? ⟨bxV, 1, none⟩ = some (.int .i64 PV.f1) := BxV.at rfl
    have cxV2 : w3.cell? ⟨bxV, 2, none⟩ = some (.int .i64 PV.f2) := BxV.at rfl
    have cxV3 : w3.cell? ⟨bxV, 3, none⟩ = some (.slice xxV3 PV.f3.length yxV3) := BxV.at rfl
    go_wp2_with fail
    go_at_call 11
    refine Calls.mono (hI _ _ _ _ _ _ _ _ _ (Lies.below (w := w3) (Owns.lies rxV0 (hi := w3.heap.size) (lo := 0) (fun t h => ⟨Nat.zero_le _, by have := urxV0 t h; omega⟩)) ee0) (Nat.le_trans (by omega) (Below.size (B := w3.heap.size) (w := w3) ee0)) (Lies.below (w := w3) (Owns.lies rxV3 (hi := w3.heap.size) (lo := 0) (fun t h => ⟨Nat.zero_le _, by have := urxV3 t h; omega⟩)) ee0) (Nat.le_trans (by omega) (Below.size (B := w3.heap.size) (w := w3) ee0))) ?_
    rintro e u1 ⟨rfl, hb⟩
    have hv1 : Below w3.heap.size w3 u1 := Below.trans (show Below w3.heap.size w3 _ from ee0) (hb.mono (Below.size (B := w3.heap.size) (w := w3) ee0))
    have fV0 := fV0.below hv1
    have fV3 := fV3.below hv1
    have kV := kV.below hv1
    have BxV := BxV.below hv1
    have rxV0 := Owns.below rxV0 hv1
    have rxV3 := Owns.below rxV3 hv1
    have hq1 := Nat.le_trans hq0 hv1.size
    have hz1 := hv1.size
    have ee1 : Below u1.heap.size u1 u1 := Below.refl _ _
    have hW1 := hW0.trans (hv1.mono hW0.size)
    have s3 : u1.cell? ⟨bxV, 0, none⟩ = some (.slice xxV0 PV.f0.length yxV0) ∧ u1.cell? ⟨bxV, 1, none⟩ = some (.int .i64 PV.f1) ∧ u1.cell? ⟨bxV, 2, none⟩ = some (.int .i64 PV.f2) ∧ u1.cell? ⟨bxV, 3, none⟩ = some (.slice xxV3 PV.f3.length yxV3) := ⟨(BxV).at rfl, (BxV).at rfl, (BxV).at rfl, (BxV).at rfl⟩
    clear hb
    have cxV0 : u1.cell? ⟨bxV, 0, none⟩ = some (.slice xxV0 PV.f0.length yxV0) := BxV.at rfl
    have cxV1 : u1.cell? ⟨bxV, 1, none⟩ = some (.int .i64 PV.f1) := BxV.at rfl
    have cxV2 : u1.cell? ⟨bxV, 2, none⟩ = some (.int .i64 PV.f2) := BxV.at rfl
    have cxV3 : u1.cell? ⟨bxV, 3, none⟩ = some (.slice xxV3 PV.f3.length yxV3) := BxV.at rfl
    go_wp2_with fail
    go_meet
    case rel => exact ⟨_, rfl, rfl, hW1⟩
  case rest =>
  obtain ⟨w4, rfl, rfl, hb4⟩ := hcut
  have hs4 : w3.heap.size ≤ w4.heap.size := hb4.size
  have fV0 := fV0.below hb4
  have fV3 := fV3.below hb4
  have kV := kV.below hb4
  have rxV0 := Owns.below rxV0 hb4
  have rxV3 := Owns.below rxV3 hb4
  have BxV := BxV.below hb4
  have hB4 := hB3.trans (hb4.mono hB3.size)
  clear hb4
  go_upto_region 10 with fail
  go_cut [26] (fun s0 wx => ∃ (V : World), V = wx ∧ s0 = .bool false ∧ Below w4.heap.size w4 V)
  case first =>
    have hq0 : w.heap.size ≤ w4.heap.size := hB4.size
    have hW0 : Below w4.heap.size w4 w4 := Below.refl _ _
    have ee0 : Below w4.heap.size w4 w4 := Below.refl _ _
    have ed0 : Below w4.heap.size w4 w4.drew := (Below.refl _ _).drew
    have s3 : w4.drew.cell? ⟨w.heap.size, 0, none⟩ = some (.slice aV0 PV.f0.length cV0) ∧ w4.drew.cell? ⟨w.heap.size, 1, none⟩ = some (.int .i64 PV.f1) ∧ w4.drew.cell? ⟨w.heap.size, 2, none⟩ = some (.int .i64 PV.f2) ∧ w4.drew.cell? ⟨w.heap.size, 3, none⟩ = some (.slice aV3 PV.f3.length cV3) ∧ w4.drew.cell? ⟨bxV, 0, none⟩ = some (.slice xxV0 PV.f0.length yxV0) ∧ w4.drew.cell? ⟨bxV, 1, none⟩ = some (.int .i64 PV.f1) ∧ w4.drew.cell? ⟨bxV, 2, none⟩ = some (.int .i64 PV.f2) ∧ w4.drew.cell? ⟨bxV, 3, none⟩ = some (.slice xxV3 PV.f3.length yxV3) := ⟨(Blk.drew kV).at rfl, (Blk.drew kV).at rfl, (Blk.drew kV).at rfl, (Blk.drew kV).at rfl, (Blk.drew BxV).at rfl, (Blk.drew BxV).at rfl, (Blk.drew BxV).at rfl, (Blk.drew BxV).at rfl⟩
    go_wp2_with fail
    go_region_held3 (fun w' => w'.cell? ⟨w.heap.size, 0, none⟩ = some (.slice aV0 PV.f0.length cV0) ∧ w'.cell? ⟨w.heap.size, 1, none⟩ = some (.int .i64 PV.f1) ∧ w'.cell? ⟨w.heap.size, 2, none⟩ = some (.int .i64 PV.f2) ∧ w'.cell? ⟨w.heap.size, 3, none⟩ = some (.slice aV3 PV.f3.length cV3) ∧ w'.cell? ⟨bxV, 0, none⟩ = some (.slice xxV0 PV.f0.length yxV0) ∧ w'.cell? ⟨bxV, 1, none⟩ = some (.int .i64 PV.f1) ∧ w'.cell? ⟨bxV, 2, none⟩ = some (.int .i64 PV.f2) ∧ w'.cell? ⟨bxV, 3, none⟩ = some (.slice xxV3 PV.f3.length yxV3))
      (first | (with_reducible exact s3) | go_keep)
      (first
      | (go_at_call 18; refine Calls.mono (gto_Visit (lo := 0) (hi := w.heap.size) PV (fV0.below (w := w4) (by first | (with_reducible exact ee0) | (with_reducible exact ed0))) (fV3.below (w := w4) (by first | (with_reducible exact ee0) | (with_reducible exact ed0))) (Nat.le_trans hq0 (Below.size (B := w4.heap.size) (w := w4) (by first | (with_reducible exact ee0) | (with_reducible exact ed0)))) (by omega) (by omega)) ?_; rintro e u1 ⟨XV0, YV0, XV3, YV3, mV1, rfl, ho0, ho3, onV0, onV1, hb⟩; have hv1 : Below w4.heap.size w4 u1 := Below.trans (show Below w4.heap.size w4 _ from (by first | (with_reducible exact ee0) | (with_reducible exact ed0))) (hb.mono (Below.size (B := w4.heap.size) (w := w4) (by first | (with_reducible exact ee0) | (with_reducible exact ed0)))); have fV0 := fV0.below hv1; have fV3 := fV3.below hv1; have kV := kV.below hv1; have BxV := BxV.below hv1; have rxV0 := Owns.below rxV0 hv1; have rxV3 := Owns.below rxV3 hv1; have qV0 := Owns.lies (lo := 0) (hi := u1.heap.size) ho0 (fun t h => ⟨Nat.zero_le _, by have := h.2; omega⟩); have qV3 := Owns.lies (lo := 0) (hi := u1.heap.size) ho3 (fun t h => ⟨Nat.zero_le _, by have := h.2; omega⟩); clear ho0 ho3 onV0 onV1; have hq1 := Nat.le_trans hq0 hv1.size; have hz1 := hv1.size; have ee1 : Below u1.heap.size u1 u1 := Below.refl _ _; have ed1 := ee1; have hW1 := hW0.trans (hv1.mono hW0.size); have s3 : u1.cell? ⟨w.heap.size, 0, none⟩ = some (.slice aV0 PV.f0.length cV0) ∧ u1.cell? ⟨w.heap.size, 1, none⟩ = some (.int .i64 PV.f1) ∧ u1.cell? ⟨w.heap.size, 2, none⟩ = some (.int .i64 PV.f2) ∧ u1.cell? ⟨w.heap.size, 3, none⟩ = some (.slice aV3 PV.f3.length cV3) ∧ u1.cell? ⟨bxV, 0, none⟩ = some (.slice xxV0 PV.f0.length yxV0) ∧ u1.cell? ⟨bxV, 1, none⟩ = some (.int .i64 PV.f1) ∧ u1.cell? ⟨bxV, 2, none⟩ = some (.int .i64 PV.f2) ∧ u1.cell? ⟨bxV, 3, none⟩ = some (.slice xxV3 PV.f3.length yxV3) := ⟨(kV).at rfl, (kV).at rfl, (kV).at rfl, (kV).at rfl, (BxV).at rfl, (BxV).at rfl, (BxV).at rfl, (BxV).at rfl⟩; clear hb)
      | (go_at_call 19; refine Calls.mono (geq_Visit PV (Lies.below (w := u1) (Owns.lies rxV0 (lo := 0) (hi := u1.heap.size) (fun t h => ⟨Nat.zero_le _, by have := urxV0 t h; omega⟩)) (by first | (with_reducible exact ee1) | (with_reducible exact ed1))) (Lies.below (w := u1) (Owns.lies rxV3 (lo := 0) (hi := u1.heap.size) (fun t h => ⟨Nat.zero_le _, by have := urxV3 t h; omega⟩)) (by first | (with_reducible exact ee1) | (with_reducible exact ed1))) (Lies.below (w := u1) qV0 (by first | (with_reducible exact ee1) | (with_reducible exact ed1))) (Lies.below (w := u1) qV3 (by first | (with_reducible exact ee1) | (with_reducible exact ed1))) (Below.size (B := u1.heap.size) (w := u1) (by first | (with_reducible exact ee1) | (with_reducible exact ed1))) (Below.size (B := u1.heap.size) (w := u1) (by first | (with_reducible exact ee1) | (with_reducible exact ed1)))) ?_; rintro e u2 ⟨rfl, hb⟩; have hv2 : Below u1.heap.size u1 u2 := Below.trans (show Below u1.heap.size u1 _ from (by first | (with_reducible exact ee1) | (with_reducible exact ed1))) (hb.mono (Below.size (B := u1.heap.size) (w := u1) (by first | (with_reducible exact ee1) | (with_reducible exact ed1)))); have fV0 := fV0.below hv2; have fV3 := fV3.below hv2; have kV := kV.below hv2; have BxV := BxV.below hv2; have rxV0 := Owns.below rxV0 hv2; have rxV3 := Owns.below rxV3 hv2; have hq2 := Nat.le_trans hq1 hv2.size; have hz2 := hv2.size; have ee2 : Below u2.heap.size u2 u2 := Below.refl _ _; have ed2 := ee2; have hW2 := hW1.trans (hv2.mono hW1.size); have s3 : u2.cell? ⟨w.heap.size, 0, none⟩ = some (.slice aV0 PV.f0.length cV0) ∧ u2.cell? ⟨w.heap.size, 1, none⟩ = some (.int .i64 PV.f1) ∧ u2.cell? ⟨w.heap.size, 2, none⟩ = some (.int .i64 PV.f2) ∧ u2.cell? ⟨w.heap.size, 3, none⟩ = some (.slice aV3 PV.f3.length cV3) ∧ u2.cell? ⟨bxV, 0, none⟩ = some (.slice xxV0 PV.f0.length yxV0) ∧ u2.cell? ⟨bxV, 1, none⟩ = some (.int .i64 PV.f1) ∧ u2.cell? ⟨bxV, 2, none⟩ = some (.int .i64 PV.f2) ∧ u2.cell? ⟨bxV, 3, none⟩ = some (.slice xxV3 PV.f3.length yxV3) := ⟨(kV).at rfl, (kV).at rfl, (kV).at rfl, (kV).at rfl, (BxV).at rfl, (BxV).at rfl, (BxV).at rfl, (BxV).at rfl⟩; clear hb)
      )
    all_goals
      go_wp2_with fail
      go_meet
      case rel => exact ⟨_, rfl, rfl, hW2⟩
  case rest =>
  obtain ⟨w5, rfl, rfl, hb5⟩ := hcut
  have hs5 : w4.heap.size ≤ w5.heap.size := hb5.size
  have fV0 := fV0.below hb5
  have fV3 := fV3.below hb5
  have kV := kV.below hb5
  have rxV0 := Owns.below rxV0 hb5
  have rxV3 := Owns.below rxV3 hb5
  have BxV := BxV.below hb5
  have hB5 := hB4.trans (hb5.mono hB4.size)
  clear hb5
  go_wp2
  go_ret
  exact ⟨rfl, hB5⟩
end Go.Proofs.Ytagnhfalmefbhaa.FnExactIsVisitW
