/-
  The law FnExactIsState returns true, and leaves what was there as it was.
  Conditions: the arguments can be read.
-/
import Derived.Test.YtbohkohccnieiaaMachS
import Derived.Test.YtbohkohccnieiaaMachI
import Derived.Deep.CutBlock
import Derived.Deep.DeepCutAuto
import Derived.Deep.RegionHeld3
namespace Go.Proofs.Ytbohkohccnieiaa.FnExactIsStateW
open Go Go.RowKit Go.Proofs.Ytbohkohccnieiaa.Mem Go.Proofs.Ytbohkohccnieiaa.Gen Go.Proofs.Ytbohkohccnieiaa.Scripts Go.Proofs.Ytbohkohccnieiaa.Mach
set_option linter.unusedVariables false

set_option maxHeartbeats 4000000 in
set_option maxRecDepth 100000 in
theorem law_walk (PS : TState) (aS1 : Option Addr) (cS1 : Nat) (aS2 : Option Addr) (cS2 : Nat) (aS3 : Option Addr) (cS3 : Nat) (w : World) (bS0 : (Lit.int .i64 PS.f0).wf = true) (fS1 : Lies 0 w.heap.size w (ints PS.f1) (.slice aS1 PS.f1.length cS1)) (fS2 : Lies 0 w.heap.size w (ints PS.f2) (.slice aS2 PS.f2.length cS2)) (fS3 : Lies 0 w.heap.size w (ints PS.f3) (.slice aS3 PS.f3.length cS3)) :
    Calls Try.prog 5 #[(Value.agg #[.int .i64 PS.f0, .slice aS1 PS.f1.length cS1, .slice aS2 PS.f2.length cS2, .slice aS3 PS.f3.length cS3])] w fun e w' => e = .returned (.bool true) ∧ Below w.heap.size w w' := by
  have hB0 : Below w.heap.size w (w.alloc (.cells #[Value.int .i64 PS.f0, .slice aS1 PS.f1.length cS1, .slice aS2 PS.f2.length cS2, .slice aS3 PS.f3.length cS3] 45)) := by repeat' (first | exact Below.refl _ _ | assumption | refine Below.setCell ?_ ?_ _ | refine Below.alloc ?_ ?_ _ | refine Gen.gbelow_drewN ?_ _ | refine Below.drew ?_ | exact Nat.le_refl _ | omega | (dsimp only; omega) | refine Gen.gle_alloc ?_ | refine Gen.gle_set ?_ | refine Gen.gle_drewN ?_ | refine Gen.gle_drew ?_)
  have hs0 : (w.alloc (.cells #[Value.int .i64 PS.f0, .slice aS1 PS.f1.length cS1, .slice aS2 PS.f2.length cS2, .slice aS3 PS.f3.length cS3] 45)).heap.size = w.heap.size + 1 := by simp only [gsize_alloc]
  have kS : Blk 45 (w.heap.size) [Value.int .i64 PS.f0, .slice aS1 PS.f1.length cS1, .slice aS2 PS.f2.length cS2, .slice aS3 PS.f3.length cS3] (w.alloc (.cells #[Value.int .i64 PS.f0, .slice aS1 PS.f1.length cS1, .slice aS2 PS.f2.length cS2, .slice aS3 PS.f3.length cS3] 45)) := by
    have q := Blk.new 45 [Value.int .i64 PS.f0, .slice aS1 PS.f1.length cS1, .slice aS2 PS.f2.length cS2, .slice aS3 PS.f3.length cS3] w
    exact q
  have fS1 := fS1.below hB0
  have fS2 := fS2.below hB0
  have fS3 := fS3.below hB0
  go_enter Try.func5, Try.ntmps5
  have cbS0 : (w.alloc (.cells #[Value.int .i64 PS.f0, .slice aS1 PS.f1.length cS1, .slice aS2 PS.f2.length cS2, .slice aS3 PS.f3.length cS3] 45)).cell? ⟨w.heap.size, 0, none⟩ = some (.int .i64 PS.f0) := kS.at rfl
  have cbS1 : (w.alloc (.cells #[Value.int .i64 PS.f0, .slice aS1 PS.f1.length cS1, .slice aS2 PS.f2.length cS2, .slice aS3 PS.f3.length cS3] 45)).cell? ⟨w.heap.size, 1, none⟩ = some (.slice aS1 PS.f1.length cS1) := kS.at rfl
  have cbS2 : (w.alloc (.cells #[Value.int .i64 PS.f0, .slice aS1 PS.f1.length cS1, .slice aS2 PS.f2.length cS2, .slice aS3 PS.f3.length cS3] 45)).cell? ⟨w.heap.size, 2, none⟩ = some (.slice aS2 PS.f2.length cS2) := kS.at rfl
  have cbS3 : (w.alloc (.cells #[Value.int .i64 PS.f0, .slice aS1 PS.f1.length cS1, .slice aS2 PS.f2.length cS2, .slice aS3 PS.f3.length cS3] 45)).cell? ⟨w.heap.size, 3, none⟩ = some (.slice aS3 PS.f3.length cS3) := kS.at rfl
  go_wp2_with fail
  go_at_call 25
  refine Calls.mono (gsz_State (lo := 0) (hi := w.heap.size) PS fS1 fS2 fS3 hB0.size 1048576 (by omega) (by omega)) ?_
  rintro e w1 ⟨rfl, hb1⟩
  have hs1 : (w.alloc (.cells #[Value.int .i64 PS.f0, .slice aS1 PS.f1.length cS1, .slice aS2 PS.f2.length cS2, .slice aS3 PS.f3.length cS3] 45)).heap.size ≤ w1.heap.size := hb1.size
  have fS1 := fS1.below hb1
  have fS2 := fS2.below hb1
  have fS3 := fS3.below hb1
  have kS := kS.below hb1
  have hB1 := hB0.trans (hb1.mono hB0.size)
  clear hb1
  have hl1 := left_cases 1048576 (room (ints PS.f1) + room (ints PS.f2) + room (ints PS.f3)) (by omega)
  obtain ⟨L1, hL1⟩ : ∃ L, left 1048576 (room (ints PS.f1) + room (ints PS.f2) + room (ints PS.f3)) = L := ⟨_, rfl⟩
  rw [hL1] at hl1 ⊢
  rcases hl1 with ⟨rfl, hl1⟩ | ⟨hl1, gl1⟩
  · go_wp2
    go_ret
    exact ⟨rfl, hB1⟩
  have dl1 : decide (L1 < 0) = false := by simp; omega
  have ml1 : L1 ≤ 1048576 := by omega
  have rmS1 : room (ints PS.f1) ≤ 1048576 := by omega
  have rmS2 : room (ints PS.f2) ≤ 1048576 := by omega
  have rmS3 : room (ints PS.f3) ≤ 1048576 := by omega
  clear hl1 hL1
  have mS1 : PS.f1.length ≤ 1048576 := by have h0 := rmS1; rw [room_ints] at h0; exact h0
  have mS2 : PS.f2.length ≤ 1048576 := by have h0 := rmS2; rw [room_ints] at h0; exact h0
  have mS3 : PS.f3.length ≤ 1048576 := by have h0 := rmS3; rw [room_ints] at h0; exact h0
  obtain ⟨R, hR⟩ : ∃ R : Bool, stateB PS = R := ⟨_, rfl⟩
  have hS : ∀ (W : World) (loS1 hiS1 : Nat) (aS1 : Option Addr) (cS1 : Nat) (loS2 hiS2 : Nat) (aS2 : Option Addr) (cS2 : Nat) (loS3 hiS3 : Nat) (aS3 : Option Addr) (cS3 : Nat), Lies loS1 hiS1 W (ints PS.f1) (.slice aS1 PS.f1.length cS1) → hiS1 ≤ W.heap.size → Lies loS2 hiS2 W (ints PS.f2) (.slice aS2 PS.f2.length cS2) → hiS2 ≤ W.heap.size → Lies loS3 hiS3 W (ints PS.f3) (.slice aS3 PS.f3.length cS3) → hiS3 ≤ W.heap.size → Calls Try.prog 26 #[(Value.agg #[.int .i64 PS.f0, .slice aS1 PS.f1.length cS1, .slice aS2 PS.f2.length cS2, .slice aS3 PS.f3.length cS3])] W (fun e w' => e = .returned (.bool R) ∧ Below W.heap.size W w') := by
    intro W loS1 hiS1 aS1 cS1 loS2 hiS2 aS2 cS2 loS3 hiS3 aS3 cS3 hS1 sS1 hS2 sS2 hS3 sS3
    rw [← hR]
    exact state_spec PS W aS1 cS1 aS2 cS2 aS3 cS3 (St.of hS1 hS2 hS3 sS1 sS2 sS3) mS1 mS2 mS3
  have hI : ∀ (W : World) (loS1 hiS1 : Nat) (aS1 : Option Addr) (cS1 : Nat) (loS2 hiS2 : Nat) (aS2 : Option Addr) (cS2 : Nat) (loS3 hiS3 : Nat) (aS3 : Option Addr) (cS3 : Nat), Lies loS1 hiS1 W (ints PS.f1) (.slice aS1 PS.f1.length cS1) → hiS1 ≤ W.heap.size → Lies loS2 hiS2 W (ints PS.f2) (.slice aS2 PS.f2.length cS2) → hiS2 ≤ W.heap.size → Lies loS3 hiS3 W (ints PS.f3) (.slice aS3 PS.f3.length cS3) → hiS3 ≤ W.heap.size → Calls Try.prog 15 #[(Value.agg #[.int .i64 PS.f0, .slice aS1 PS.f1.length cS1, .slice aS2 PS.f2.length cS2, .slice aS3 PS.f3.length cS3])] W (fun e w' => e = .returned (.bool R) ∧ Below W.heap.size W w') := by
    intro W loS1 hiS1 aS1 cS1 loS2 hiS2 aS2 cS2 loS3 hiS3 aS3 cS3 hS1 sS1 hS2 sS2 hS3 sS3
    rw [← hR]
    exact implC.state PS W aS1 cS1 aS2 cS2 aS3 cS3 (St.of hS1 hS2 hS3 sS1 sS2 sS3) mS1 mS2 mS3
  clear hR
  go_upto_region 5 with fail
  go_cut [4] (fun s0 wx => ∃ (V : World) , V = wx ∧ s0 = .bool R ∧ Below w1.heap.size w1 V)
  case first =>
    have hq0 : w.heap.size ≤ w1.heap.size := hB1.size
    have hW0 : Below w1.heap.size w1 w1 := Below.refl _ _
    have ee0 : Below w1.heap.size w1 w1 := Below.refl _ _
    have cbS0 : w1.cell? ⟨w.heap.size, 0, none⟩ = some (.int .i64 PS.f0) := kS.at rfl
    have cbS1 : w1.cell? ⟨w.heap.size, 1, none⟩ = some (.slice aS1 PS.f1.length cS1) := kS.at rfl
    have cbS2 : w1.cell? ⟨w.heap.size, 2, none⟩ = some (.slice aS2 PS.f2.length cS2) := kS.at rfl
    have cbS3 : w1.cell? ⟨w.heap.size, 3, none⟩ = some (.slice aS3 PS.f3.length cS3) := kS.at rfl
    go_wp2_with fail
    go_at_call 27
    refine Calls.mono (gto_State (lo := 0) (hi := w.heap.size) PS (fS1.below (w := w1) ee0) (fS2.below (w := w1) ee0) (fS3.below (w := w1) ee0) (Nat.le_trans hq0 (Below.size (B := w1.heap.size) (w := w1) ee0)) (by omega) (by omega) (by omega)) ?_
    rintro e u1 ⟨XS1, YS1, XS2, YS2, XS3, YS3, mS1, mS2, rfl, ho1, ho2, ho3, onS0, onS1, onS2, hb⟩
    have hv1 : Below w1.heap.size w1 u1 := Below.trans (show Below w1.heap.size w1 _ from ee0) (hb.mono (Below.size (B := w1.heap.size) (w := w1) ee0))
    have fS1 := fS1.below hv1
    have fS2 := fS2.below hv1
    have fS3 := fS3.below hv1
    have kS := kS.below hv1
    have qS1 := Owns.lies (lo := 0) (hi := u1.heap.size) ho1 (fun t h => ⟨Nat.zero_le _, by have := h.2; omega⟩)
    have qS2 := Owns.lies (lo := 0) (hi := u1.heap.size) ho2 (fun t h => ⟨Nat.zero_le _, by have := h.2; omega⟩)
    have qS3 := Owns.lies (lo := 0) (hi := u1.heap.size) ho3 (fun t h => ⟨Nat.zero_le _, by have := h.2; omega⟩)
    clear ho1 ho2 ho3 onS0 onS1 onS2
    have hq1 := Nat.le_trans hq0 hv1.size
    have hz1 := hv1.size
    have ee1 : Below u1.heap.size u1 u1 := Below.refl _ _
    have hW1 := hW0.trans (hv1.mono hW0.size)
    have s3 : u1.cell? ⟨w.heap.size, 0, none⟩ = some (.int .i64 PS.f0) ∧ u1.cell? ⟨w.heap.size, 1, none⟩ = some (.slice aS1 PS.f1.length cS1) ∧ u1.cell? ⟨w.heap.size, 2, none⟩ = some (.slice aS2 PS.f2.length cS2) ∧ u1.cell? ⟨w.heap.size, 3, none⟩ = some (.slice aS3 PS.f3.length cS3) := ⟨(kS).at rfl, (kS).at rfl, (kS).at rfl, (kS).at rfl⟩
    clear hb
    have cbS0 : u1.cell? ⟨w.heap.size, 0, none⟩ = some (.int .i64 PS.f0) := kS.at rfl
    have cbS1 : u1.cell? ⟨w.heap.size, 1, none⟩ = some (.slice aS1 PS.f1.length cS1) := kS.at rfl
    have cbS2 : u1.cell? ⟨w.heap.size, 2, none⟩ = some (.slice aS2 PS.f2.length cS2) := kS.at rfl
    have cbS3 : u1.cell? ⟨w.heap.size, 3, none⟩ = some (.slice aS3 PS.f3.length cS3) := kS.at rfl
    go_wp2_with fail
    go_at_call 26
    refine Calls.mono (hS _ _ _ _ _ _ _ _ _ _ _ _ _ (Lies.below (w := u1) qS1 ee1) (Nat.le_trans (by omega) (Below.size (B := u1.heap.size) (w := u1) ee1)) (Lies.below (w := u1) qS2 ee1) (Nat.le_trans (by omega) (Below.size (B := u1.heap.size) (w := u1) ee1)) (Lies.below (w := u1) qS3 ee1) (Nat.le_trans (by omega) (Below.size (B := u1.heap.size) (w := u1) ee1))) ?_
    rintro e u2 ⟨rfl, hb⟩
    have hv2 : Below u1.heap.size u1 u2 := Below.trans (show Below u1.heap.size u1 _ from ee1) (hb.mono (Below.size (B := u1.heap.size) (w := u1) ee1))
    have qS1 := Lies.below qS1 hv2
    have qS2 := Lies.below qS2 hv2
    have qS3 := Lies.below qS3 hv2
    have fS1 := fS1.below hv2
    have fS2 := fS2.below hv2
    have fS3 := fS3.below hv2
    have kS := kS.below hv2
    have hq2 := Nat.le_trans hq1 hv2.size
    have hz2 := hv2.size
    have ee2 : Below u2.heap.size u2 u2 := Below.refl _ _
    have hW2 := hW1.trans (hv2.mono hW1.size)
    have s3 : u2.cell? ⟨w.heap.size, 0, none⟩ = some (.int .i64 PS.f0) ∧ u2.cell? ⟨w.heap.size, 1, none⟩ = some (.slice aS1 PS.f1.length cS1) ∧ u2.cell? ⟨w.heap.size, 2, none⟩ = some (.slice aS2 PS.f2.length cS2) ∧ u2.cell? ⟨w.heap.size, 3, none⟩ = some (.slice aS3 PS.f3.length cS3) := ⟨(kS).at rfl, (kS).at rfl, (kS).at rfl, (kS).at rfl⟩
    clear hb
    have cbS0 : u2.cell? ⟨w.heap.size, 0, none⟩ = some (.int .i64 PS.f0) := kS.at rfl
    have cbS1 : u2.cell? ⟨w.heap.size, 1, none⟩ = some (.slice aS1 PS.f1.length cS1) := kS.at rfl
    have cbS2 : u2.cell? ⟨w.heap.size, 2, none⟩ = some (.slice aS2 PS.f2.length cS2) := kS.at rfl
    have cbS3 : u2.cell? ⟨w.heap.size, 3, none⟩ = some (.slice aS3 PS.f3.length cS3) := kS.at rfl
    go_wp2_with fail
    go_meet
    case rel => exact ⟨_, rfl, rfl, hW2⟩
  case rest =>
  obtain ⟨w2, rfl, rfl, hb2⟩ := hcut
  have hs2 : w1.heap.size ≤ w2.heap.size := hb2.size
  have fS1 := fS1.below hb2
  have fS2 := fS2.below hb2
  have fS3 := fS3.below hb2
  have kS := kS.below hb2
  have hB2 := hB1.trans (hb2.mono hB1.size)
  clear hb2
  go_upto_region 6 with fail
  go_cut [5] (fun s0 wx => ∃ (V : World) (bS : Nat) (xS1 : Option Addr) (yS1 : Nat) (SS1 : Nat → Prop) (xS2 : Option Addr) (yS2 : Nat) (SS2 : Nat → Prop) (xS3 : Option Addr) (yS3 : Nat) (SS3 : Nat → Prop), V = wx ∧ s0 = .pointer (some ⟨bS, 0, none⟩) ∧ Blk 27 bS [Value.int .i64 PS.f0, .slice xS1 PS.f1.length yS1, .slice xS2 PS.f2.length yS2, .slice xS3 PS.f3.length yS3] V ∧ (w.heap.size + 1 ≤ bS) ∧ bS < V.heap.size ∧ (w2.heap.size ≤ bS) ∧ Owns V (ints PS.f1) (.slice xS1 PS.f1.length yS1) SS1 ∧ Owns V (ints PS.f2) (.slice xS2 PS.f2.length yS2) SS2 ∧ Owns V (ints PS.f3) (.slice xS3 PS.f3.length yS3) SS3 ∧ (∀ t, SS1 t → w2.heap.size ≤ t ∧ t < V.heap.size) ∧ (∀ t, SS2 t → w2.heap.size ≤ t ∧ t < V.heap.size) ∧ (∀ t, SS3 t → w2.heap.size ≤ t ∧ t < V.heap.size) ∧ (∀ t, SS1 t → ¬ SS2 t) ∧ (∀ t, SS1 t → ¬ SS3 t) ∧ (∀ t, SS2 t → ¬ SS3 t) ∧ ¬ SS1 bS ∧ ¬ SS2 bS ∧ ¬ SS3 bS ∧ Below w2.heap.size w2 V)
  case first =>
    have cbS0 : w2.cell? ⟨w.heap.size, 0, none⟩ = some (.int .i64 PS.f0) := kS.at rfl
    have cbS1 : w2.cell? ⟨w.heap.size, 1, none⟩ = some (.slice aS1 PS.f1.length cS1) := kS.at rfl
    have cbS2 : w2.cell? ⟨w.heap.size, 2, none⟩ = some (.slice aS2 PS.f2.length cS2) := kS.at rfl
    have cbS3 : w2.cell? ⟨w.heap.size, 3, none⟩ = some (.slice aS3 PS.f3.length cS3) := kS.at rfl
    go_wp2_with fail
    go_at_call 27
    refine Calls.mono (gto_State (lo := 0) (hi := w.heap.size) PS fS1 fS2 fS3 hB2.size (by omega) (by omega) (by omega)) ?_
    rintro e u1 ⟨x1, y1, x2, y2, x3, y3, m1, m2, rfl, ho1, ho2, ho3, oo0, oo1, oo2, hb⟩
    have hz := hb.size
    go_wp2_with fail
    go_meet
    case rel => exact ⟨_, _, _, _, Span (w2.heap.size) (m1), _, _, Span (m1) (m2), _, _, Span (m2) (u1.heap.size), rfl, rfl, Blk.new _ [Value.int .i64 PS.f0, .slice x1 PS.f1.length y1, .slice x2 PS.f2.length y2, .slice x3 PS.f3.length y3] u1, (by omega), (by rw [gsize_alloc]; omega), (by omega), (Owns.below ho1 ((Below.refl _ _).alloc (Nat.le_refl _) _)), (Owns.below ho2 ((Below.refl _ _).alloc (Nat.le_refl _) _)), (Owns.below ho3 ((Below.refl _ _).alloc (Nat.le_refl _) _)), (fun t h => ⟨by have := h.1; omega, by have := h.2; rw [gsize_alloc]; omega⟩), (fun t h => ⟨by have := h.1; omega, by have := h.2; rw [gsize_alloc]; omega⟩), (fun t h => ⟨by have := h.1; omega, by have := h.2; rw [gsize_alloc]; omega⟩), (fun t h h' => by have := h.2; have := h'.1; omega), (fun t h h' => by have := h.2; have := h'.1; omega), (fun t h h' => by have := h.2; have := h'.1; omega), (fun h => by have := h.2; omega), (fun h => by have := h.2; omega), (fun h => by have := h.2; omega), (hb.alloc hb.size _)⟩
  case rest =>
  obtain ⟨w3, bxS, xxS1, yxS1, SxS1, xxS2, yxS2, SxS2, xxS3, yxS3, SxS3, rfl, rfl, BxS, lbxS, ubxS, mbxS, rxS1, rxS2, rxS3, urxS1, urxS2, urxS3, udxS_0_1, udxS_0_2, udxS_1_2, nbxS1_S, nbxS2_S, nbxS3_S, hb3⟩ := hcut
  have hs3 : w2.heap.size ≤ w3.heap.size := hb3.size
  have fS1 := fS1.below hb3
  have fS2 := fS2.below hb3
  have fS3 := fS3.below hb3
  have kS := kS.below hb3
  have hB3 := hB2.trans (hb3.mono hB2.size)
  clear hb3
  go_upto_region 7 with fail
  go_cut [6] (fun s0 wx => ∃ (V : World) , V = wx ∧ s0 = .bool R ∧ Below w3.heap.size w3 V)
  case first =>
    have hq0 : w.heap.size ≤ w3.heap.size := hB3.size
    have hW0 : Below w3.heap.size w3 w3 := Below.refl _ _
    have ee0 : Below w3.heap.size w3 w3 := Below.refl _ _
    have cxS0 : w3.cell? ⟨bxS, 0, none⟩ = some (.int .i64 PS.f0) := BxS.at rfl
    have cxS1 : w3.cell? ⟨bxS, 1, none⟩ = some (.slice xxS1 PS.f1.length yxS1) := BxS.at rfl
    have cxS2 : w3.cell? ⟨bxS, 2, none⟩ = some (.slice xxS2 PS.f2.length yxS2) := BxS.at rfl
    have cxS3 : w3.cell? ⟨bxS, 3, none⟩ = some (.slice xxS3 PS.f3.length yxS3) := BxS.at rfl
    go_wp2_with fail
    go_at_call 15
    refine Calls.mono (hI _ _ _ _ _ _ _ _ _ _ _ _ _ (Lies.below (w := w3) (Owns.lies rxS1 (hi := w3.heap.size) (lo := 0) (fun t h => ⟨Nat.zero_le _, by have := urxS1 t h; omega⟩)) ee0) (Nat.le_trans (by omega) (Below.size (B := w3.heap.size) (w := w3) ee0)) (Lies.below (w := w3) (Owns.lies rxS2 (hi := w3.heap.size) (lo := 0) (fun t h => ⟨Nat.zero_le _, by have := urxS2 t h; omega⟩)) ee0) (Nat.le_trans (by omega) (Below.size (B := w3.heap.size) (w := w3) ee0)) (Lies.below (w := w3) (Owns.lies rxS3 (hi := w3.heap.size) (lo := 0) (fun t h => ⟨Nat.zero_le _, by have := urxS3 t h; omega⟩)) ee0) (Nat.le_trans (by omega) (Below.size (B := w3.heap.size) (w := w3) ee0))) ?_
    rintro e u1 ⟨rfl, hb⟩
    have hv1 : Below w3.heap.size w3 u1 := Below.trans (show Below w3.heap.size w3 _ from ee0) (hb.mono (Below.size (B := w3.heap.size) (w := w3) ee0))
    have fS1 := fS1.below hv1
    have fS2 := fS2.below hv1
    have fS3 := fS3.below hv1
    have kS := kS.below hv1
    have BxS := BxS.below hv1
    have rxS1 := Owns.below rxS1 hv1
    have rxS2 := Owns.below rxS2 hv1
    have rxS3 := Owns.below rxS3 hv1
    have hq1 := Nat.le_trans hq0 hv1.size
    have hz1 := hv1.size
    have ee1 : Below u1.heap.size u1 u1 := Below.refl _ _
    have hW1 := hW0.trans (hv1.mono hW0.size)
    have s3 : u1.cell? ⟨bxS, 0, none⟩ = some (.int .i64 PS.f0) ∧ u1.cell? ⟨bxS, 1, none⟩ = some (.slice xxS1 PS.f1.length yxS1) ∧ u1.cell? ⟨bxS, 2, none⟩ = some (.slice xxS2 PS.f2.length yxS2) ∧ u1.cell? ⟨bxS, 3, none⟩ = some (.slice xxS3 PS.f3.length yxS3) := ⟨(BxS).at rfl, (BxS).at rfl, (BxS).at rfl, (BxS).at rfl⟩
    clear hb
    have cxS0 : u1.cell? ⟨bxS, 0, none⟩ = some (.int .i64 PS.f0) := BxS.at rfl
    have cxS1 : u1.cell? ⟨bxS, 1, none⟩ = some (.slice xxS1 PS.f1.length yxS1) := BxS.at rfl
    have cxS2 : u1.cell? ⟨bxS, 2, none⟩ = some (.slice xxS2 PS.f2.length yxS2) := BxS.at rfl
    have cxS3 : u1.cell? ⟨bxS, 3, none⟩ = some (.slice xxS3 PS.f3.length yxS3) := BxS.at rfl
    go_wp2_with fail
    go_meet
    case rel => exact ⟨_, rfl, rfl, hW1⟩
  case rest =>
  obtain ⟨w4, rfl, rfl, hb4⟩ := hcut
  have hs4 : w3.heap.size ≤ w4.heap.size := hb4.size
  have fS1 := fS1.below hb4
  have fS2 := fS2.below hb4
  have fS3 := fS3.below hb4
  have kS := kS.below hb4
  have rxS1 := Owns.below rxS1 hb4
  have rxS2 := Owns.below rxS2 hb4
  have rxS3 := Owns.below rxS3 hb4
  have BxS := BxS.below hb4
  have hB4 := hB3.trans (hb4.mono hB3.size)
  clear hb4
  go_upto_region 10 with fail
  go_cut [26] (fun s0 wx => ∃ (V : World), V = wx ∧ s0 = .bool false ∧ Below w4.heap.size w4 V)
  case first =>
    have hq0 : w.heap.size ≤ w4.heap.size := hB4.size
    have hW0 : Below w4.heap.size w4 w4 := Below.refl _ _
    have ee0 : Below w4.heap.size w4 w4 := Below.refl _ _
    have ed0 : Below w4.heap.size w4 w4.drew := (Below.refl _ _).drew
    have s3 : w4.drew.cell? ⟨w.heap.size, 0, none⟩ = some (.int .i64 PS.f0) ∧ w4.drew.cell? ⟨w.heap.size, 1, none⟩ = some (.slice aS1 PS.f1.length cS1) ∧ w4.drew.cell? ⟨w.heap.size, 2, none⟩ = some (.slice aS2 PS.f2.length cS2) ∧ w4.drew.cell? ⟨w.heap.size, 3, none⟩ = some (.slice aS3 PS.f3.length cS3) ∧ w4.drew.cell? ⟨bxS, 0, none⟩ = some (.int .i64 PS.f0) ∧ w4.drew.cell? ⟨bxS, 1, none⟩ = some (.slice xxS1 PS.f1.length yxS1) ∧ w4.drew.cell? ⟨bxS, 2, none⟩ = some (.slice xxS2 PS.f2.length yxS2) ∧ w4.drew.cell? ⟨bxS, 3, none⟩ = some (.slice xxS3 PS.f3.length yxS3) := ⟨(Blk.drew kS).at rfl, (Blk.drew kS).at rfl, (Blk.drew kS).at rfl, (Blk.drew kS).at rfl, (Blk.drew BxS).at rfl, (Blk.drew BxS).at rfl, (Blk.drew BxS).at rfl, (Blk.drew BxS).at rfl⟩
    go_wp2_with fail
    go_region_held3 (fun w' => w'.cell? ⟨w.heap.size, 0, none⟩ = some (.int .i64 PS.f0) ∧ w'.cell? ⟨w.heap.size, 1, none⟩ = some (.slice aS1 PS.f1.length cS1) ∧ w'.cell? ⟨w.heap.size, 2, none⟩ = some (.slice aS2 PS.f2.length cS2) ∧ w'.cell? ⟨w.heap.size, 3, none⟩ = some (.slice aS3 PS.f3.length cS3) ∧ w'.cell? ⟨bxS, 0, none⟩ = some (.int .i64 PS.f0) ∧ w'.cell? ⟨bxS, 1, none⟩ = some (.slice xxS1 PS.f1.length yxS1) ∧ w'.cell? ⟨bxS, 2, none⟩ = some (.slice xxS2 PS.f2.length yxS2) ∧ w'.cell? ⟨bxS, 3, none⟩ = some (.slice xxS3 PS.f3.length yxS3))
      (first | (with_reducible exact s3) | go_keep)
      (first
      | (go_at_call 27; refine Calls.mono (gto_State (lo := 0) (hi := w.heap.size) PS (fS1.below (w := w4) (by first | (with_reducible exact ee0) | (with_reducible exact ed0))) (fS2.below (w := w4) (by first | (with_reducible exact ee0) | (with_reducible exact ed0))) (fS3.below (w := w4) (by first | (with_reducible exact ee0) | (with_reducible exact ed0))) (Nat.le_trans hq0 (Below.size (B := w4.heap.size) (w := w4) (by first | (with_reducible exact ee0) | (with_reducible exact ed0)))) (by omega) (by omega) (by omega)) ?_; rintro e u1 ⟨XS1, YS1, XS2, YS2, XS3, YS3, mS1, mS2, rfl, ho1, ho2, ho3, onS0, onS1, onS2, hb⟩; have hv1 : Below w4.heap.size w4 u1 := Below.trans (show Below w4.heap.size w4 _ from (by first | (with_reducible exact ee0) | (with_reducible exact ed0))) (hb.mono (Below.size (B := w4.heap.size) (w := w4) (by first | (with_reducible exact ee0) | (with_reducible exact ed0)))); have fS1 := fS1.below hv1; have fS2 := fS2.below hv1; have fS3 := fS3.below hv1; have kS := kS.below hv1; have BxS := BxS.below hv1; have rxS1 := Owns.below rxS1 hv1; have rxS2 := Owns.below rxS2 hv1; have rxS3 := Owns.below rxS3 hv1; have qS1 := Owns.lies (lo := 0) (hi := u1.heap.size) ho1 (fun t h => ⟨Nat.zero_le _, by have := h.2; omega⟩); have qS2 := Owns.lies (lo := 0) (hi := u1.heap.size) ho2 (fun t h => ⟨Nat.zero_le _, by have := h.2; omega⟩); have qS3 := Owns.lies (lo := 0) (hi := u1.heap.size) ho3 (fun t h => ⟨Nat.zero_le _, by have := h.2; omega⟩); clear ho1 ho2 ho3 onS0 onS1 onS2; have hq1 := Nat.le_trans hq0 hv1.size; have hz1 := hv1.size; have ee1 : Below u1.heap.size u1 u1 := Below.refl _ _; have ed1 := ee1; have hW1 := hW0.trans (hv1.mono hW0.size); have s3 : u1.cell? ⟨w.heap.size, 0, none⟩ = some (.int .i64 PS.f0) ∧ u1.cell? ⟨w.heap.size, 1, none⟩ = some (.slice aS1 PS.f1.length cS1) ∧ u1.cell? ⟨w.heap.size, 2, none⟩ = some (.slice aS2 PS.f2.length cS2) ∧ u1.cell? ⟨w.heap.size, 3, none⟩ = some (.slice aS3 PS.f3.length cS3) ∧ u1.cell? ⟨bxS, 0, none⟩ = some (.int .i64 PS.f0) ∧ u1.cell? ⟨bxS, 1, none⟩ = some (.slice xxS1 PS.f1.length yxS1) ∧ u1.cell? ⟨bxS, 2, none⟩ = some (.slice xxS2 PS.f2.length yxS2) ∧ u1.cell? ⟨bxS, 3, none⟩ = some (.slice xxS3 PS.f3.length yxS3) := ⟨(kS).at rfl, (kS).at rfl, (kS).at rfl, (kS).at rfl, (BxS).at rfl, (BxS).at rfl, (BxS).at rfl, (BxS).at rfl⟩; clear hb)
      | (go_at_call 22; refine Calls.mono (geq_State PS (Lies.below (w := u1) (Owns.lies rxS1 (lo := 0) (hi := u1.heap.size) (fun t h => ⟨Nat.zero_le _, by have := urxS1 t h; omega⟩)) (by first | (with_reducible exact ee1) | (with_reducible exact ed1))) (Lies.below (w := u1) (Owns.lies rxS2 (lo := 0) (hi := u1.heap.size) (fun t h => ⟨Nat.zero_le _, by have := urxS2 t h; omega⟩)) (by first | (with_reducible exact ee1) | (with_reducible exact ed1))) (Lies.below (w := u1) (Owns.lies rxS3 (lo := 0) (hi := u1.heap.size) (fun t h => ⟨Nat.zero_le _, by have := urxS3 t h; omega⟩)) (by first | (with_reducible exact ee1) | (with_reducible exact ed1))) (Lies.below (w := u1) qS1 (by first | (with_reducible exact ee1) | (with_reducible exact ed1))) (Lies.below (w := u1) qS2 (by first | (with_reducible exact ee1) | (with_reducible exact ed1))) (Lies.below (w := u1) qS3 (by first | (with_reducible exact ee1) | (with_reducible exact ed1))) (Below.size (B := u1.heap.size) (w := u1) (by first | (with_reducible exact ee1) | (with_reducible exact ed1))) (Below.size (B := u1.heap.size) (w := u1) (by first | (with_reducible exact ee1) | (with_reducible exact ed1)))) ?_; rintro e u2 ⟨rfl, hb⟩; have hv2 : Below u1.heap.size u1 u2 := Below.trans (show Below u1.heap.size u1 _ from (by first | (with_reducible exact ee1) | (with_reducible exact ed1))) (hb.mono (Below.size (B := u1.heap.size) (w := u1) (by first | (with_reducible exact ee1) | (with_reducible exact ed1)))); have fS1 := fS1.below hv2; have fS2 := fS2.below hv2; have fS3 := fS3.below hv2; have kS := kS.below hv2; have BxS := BxS.below hv2; have rxS1 := Owns.below rxS1 hv2; have rxS2 := Owns.below rxS2 hv2; have rxS3 := Owns.below rxS3 hv2; have hq2 := Nat.le_trans hq1 hv2.size; have hz2 := hv2.size; have ee2 : Below u2.heap.size u2 u2 := Below.refl _ _; have ed2 := ee2; have hW2 := hW1.trans (hv2.mono hW1.size); have s3 : u2.cell? ⟨w.heap.size, 0, none⟩ = some (.int .i64 PS.f0) ∧ u2.cell? ⟨w.heap.size, 1, none⟩ = some (.slice aS1 PS.f1.length cS1) ∧ u2.cell? ⟨w.heap.size, 2, none⟩ = some (.slice aS2 PS.f2.length cS2) ∧ u2.cell? ⟨w.heap.size, 3, none⟩ = some (.slice aS3 PS.f3.length cS3) ∧ u2.cell? ⟨bxS, 0, none⟩ = some (.int .i64 PS.f0) ∧ u2.cell? ⟨bxS, 1, none⟩ = some (.slice xxS1 PS.f1.length yxS1) ∧ u2.cell? ⟨bxS, 2, none⟩ = some (.slice xxS2 PS.f2.length yxS2) ∧ u2.cell? ⟨bxS, 3, none⟩ = some (.slice xxS3 PS.f3.length yxS3) := ⟨(kS).at rfl, (kS).at rfl, (kS).at rfl, (kS).at rfl, (BxS).at rfl, (BxS).at rfl, (BxS).at rfl, (BxS).at rfl⟩; clear hb)
      )
    all_goals
      go_wp2_with fail
      go_meet
      case rel => exact ⟨_, rfl, rfl, hW2⟩
  case rest =>
  obtain ⟨w5, rfl, rfl, hb5⟩ := hcut
  have hs5 : w4.heap.size ≤ w5.heap.size := hb5.size
  have fS1 := fS1.below hb5
  have fS2 := fS2.below hb5
  have fS3 := fS3.below hb5
  have kS := kS.below hb5
  have rxS1 := Owns.below rxS1 hb5
  have rxS2 := Owns.below rxS2 hb5
  have rxS3 := Owns.below rxS3 hb5
  have BxS := BxS.below hb5
  have hB5 := hB4.trans (hb5.mono hB4.size)
  clear hb5
  go_wp2
  go_ret
  exact ⟨rfl, hB5⟩
end Go.Proofs.Ytbohkohccnieiaa.FnExactIsStateW
