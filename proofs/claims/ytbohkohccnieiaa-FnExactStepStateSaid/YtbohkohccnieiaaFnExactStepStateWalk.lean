/-
  The law FnExactStepState returns true, and leaves what was there as it was.
  Conditions: the arguments can be read.
-/
import Derived.Test.YtbohkohccnieiaaMachStep
import Derived.Test.YtbohkohccnieiaaMachI
import Derived.Deep.CutBlock
import Derived.Deep.DeepCutAuto
import Derived.Deep.RegionHeld3
namespace Go.Proofs.Ytbohkohccnieiaa.FnExactStepStateW
open Go Go.RowKit Go.Proofs.Ytbohkohccnieiaa.Mem Go.Proofs.Ytbohkohccnieiaa.Gen Go.Proofs.Ytbohkohccnieiaa.Scripts Go.Proofs.Ytbohkohccnieiaa.Mach
set_option linter.unusedVariables false

set_option maxHeartbeats 4000000 in
set_option maxRecDepth 100000 in
theorem law_walk (lL : List TOp) (aL : Option Addr) (cL : Nat) (PS : TState) (aS1 : Option Addr) (cS1 : Nat) (aS2 : Option Addr) (cS2 : Nat) (aS3 : Option Addr) (cS3 : Nat) (zV : Int) (w : World) (fL : Lies 0 w.heap.size w (dOp lL) (.slice aL lL.length cL)) (bS0 : (Lit.int .i64 PS.f0).wf = true) (fS1 : Lies 0 w.heap.size w (ints PS.f1) (.slice aS1 PS.f1.length cS1)) (fS2 : Lies 0 w.heap.size w (ints PS.f2) (.slice aS2 PS.f2.length cS2)) (fS3 : Lies 0 w.heap.size w (ints PS.f3) (.slice aS3 PS.f3.length cS3)) (bV : (Lit.int .i64 zV).wf = true) :
    Calls Try.prog 7 #[.slice aL lL.length cL, (Value.agg #[.int .i64 PS.f0, .slice aS1 PS.f1.length cS1, .slice aS2 PS.f2.length cS2, .slice aS3 PS.f3.length cS3]), .int .i64 zV] w fun e w' => e = .returned (.bool true) ∧ Below w.heap.size w w' := by
  have hB0 : Below w.heap.size w (w.alloc (.cells #[Value.int .i64 PS.f0, .slice aS1 PS.f1.length cS1, .slice aS2 PS.f2.length cS2, .slice aS3 PS.f3.length cS3] 45)) := by repeat' (first | exact Below.refl _ _ | assumption | refine Below.setCell ?_ ?_ _ | refine Below.alloc ?_ ?_ _ | refine Gen.gbelow_drewN ?_ _ | refine Below.drew ?_ | exact Nat.le_refl _ | omega | (dsimp only; omega) | refine Gen.gle_alloc ?_ | refine Gen.gle_set ?_ | refine Gen.gle_drewN ?_ | refine Gen.gle_drew ?_)
  have hs0 : (w.alloc (.cells #[Value.int .i64 PS.f0, .slice aS1 PS.f1.length cS1, .slice aS2 PS.f2.length cS2, .slice aS3 PS.f3.length cS3] 45)).heap.size = w.heap.size + 1 := by simp only [gsize_alloc]
  have kS : Blk 45 (w.heap.size) [Value.int .i64 PS.f0, .slice aS1 PS.f1.length cS1, .slice aS2 PS.f2.length cS2, .slice aS3 PS.f3.length cS3] (w.alloc (.cells #[Value.int .i64 PS.f0, .slice aS1 PS.f1.length cS1, .slice aS2 PS.f2.length cS2, .slice aS3 PS.f3.length cS3] 45)) := by
    have q := Blk.new 45 [Value.int .i64 PS.f0, .slice aS1 PS.f1.length cS1, .slice aS2 PS.f2.length cS2, .slice aS3 PS.f3.length cS3] w
    exact q
  have fL := fL.below hB0
  have fS1 := fS1.below hB0
  have fS2 := fS2.below hB0
  have fS3 := fS3.below hB0
  go_enter Try.func7, Try.ntmps7
  go_wp2_with fail
  go_at_call 28
  refine Calls.mono (gsz_OpS (lo := 0) (hi := w.heap.size) fL hB0.size 1048576 (by omega) (by omega)) ?_
  rintro e w1 ⟨rfl, hb1⟩
  have hs1 : (w.alloc (.cells #[Value.int .i64 PS.f0, .slice aS1 PS.f1.length cS1, .slice aS2 PS.f2.length cS2, .slice aS3 PS.f3.length cS3] 45)).heap.size ≤ w1.heap.size := hb1.size
  have fL := fL.below hb1
  have fS1 := fS1.below hb1
  have fS2 := fS2.below hb1
  have fS3 := fS3.below hb1
  have kS := kS.below hb1
  have hB1 := hB0.trans (hb1.mono hB0.size)
  clear hb1
  have hl1 := left_cases 1048576 (room (dOp lL)) (by omega)
  obtain ⟨L1, hL1⟩ : ∃ L, left 1048576 (room (dOp lL)) = L := ⟨_, rfl⟩
  rw [hL1] at hl1 ⊢
  rcases hl1 with ⟨rfl, hl1⟩ | ⟨hl1, gl1⟩
  · go_wp2
    go_ret
    exact ⟨rfl, hB1⟩
  have dl1 : decide (L1 < 0) = false := by simp; omega
  have ml1 : L1 ≤ 1048576 := by omega
  have rmL : room (dOp lL) ≤ 1048576 := by omega
  clear hl1 hL1
  have cbS0 : w1.cell? ⟨w.heap.size, 0, none⟩ = some (.int .i64 PS.f0) := kS.at rfl
  have cbS1 : w1.cell? ⟨w.heap.size, 1, none⟩ = some (.slice aS1 PS.f1.length cS1) := kS.at rfl
  have cbS2 : w1.cell? ⟨w.heap.size, 2, none⟩ = some (.slice aS2 PS.f2.length cS2) := kS.at rfl
  have cbS3 : w1.cell? ⟨w.heap.size, 3, none⟩ = some (.slice aS3 PS.f3.length cS3) := kS.at rfl
  go_wp2_with fail
  go_at_call 25
  refine Calls.mono (gsz_State (lo := 0) (hi := w.heap.size) PS fS1 fS2 fS3 hB1.size L1 gl1 ml1) ?_
  rintro e w2 ⟨rfl, hb2⟩
  have hs2 : w1.heap.size ≤ w2.heap.size := hb2.size
  have fL := fL.below hb2
  have fS1 := fS1.below hb2
  have fS2 := fS2.below hb2
  have fS3 := fS3.below hb2
  have kS := kS.below hb2
  have hB2 := hB1.trans (hb2.mono hB1.size)
  clear hb2
  have hl2 := left_cases L1 (room (ints PS.f1) + room (ints PS.f2) + room (ints PS.f3)) gl1
  obtain ⟨L2, hL2⟩ : ∃ L, left L1 (room (ints PS.f1) + room (ints PS.f2) + room (ints PS.f3)) = L := ⟨_, rfl⟩
  rw [hL2] at hl2 ⊢
  rcases hl2 with ⟨rfl, hl2⟩ | ⟨hl2, gl2⟩
  · go_wp2
    go_ret
    exact ⟨rfl, hB2⟩
  have dl2 : decide (L2 < 0) = false := by simp; omega
  have ml2 : L2 ≤ 1048576 := by omega
  have rmS1 : room (ints PS.f1) ≤ 1048576 := by omega
  have rmS2 : room (ints PS.f2) ≤ 1048576 := by omega
  have rmS3 : room (ints PS.f3) ≤ 1048576 := by omega
  clear hl2 hL2
  have lL16 : lL.length ≤ 1048576 := by have h0 : room (dOp lL) = lL.length + _ := rfl; omega
  have mS1 : PS.f1.length ≤ 1048576 := by have h0 := rmS1; rw [room_ints] at h0; exact h0
  have mS2 : PS.f2.length ≤ 1048576 := by have h0 := rmS2; rw [room_ints] at h0; exact h0
  have mS3 : PS.f3.length ≤ 1048576 := by have h0 := rmS3; rw [room_ints] at h0; exact h0
  obtain ⟨R, hR⟩ : ∃ R : TState, Mach.step lL PS zV = R := ⟨_, rfl⟩
  have zR1 : room (ints R.f1) ≤ 1048576 := by rw [room_ints, ← hR, (step_len lL PS zV).1]; exact mS1
  have zR2 : room (ints R.f2) ≤ 1048576 := by rw [room_ints, ← hR, (step_len lL PS zV).2.1]; exact mS2
  have zR3 : room (ints R.f3) ≤ 1048576 := by rw [room_ints, ← hR, (step_len lL PS zV).2.2]; exact mS3
  have hS : ∀ (W : World) (loL hiL : Nat) (aL : Option Addr) (cL : Nat) (loS1 hiS1 : Nat) (aS1 : Option Addr) (cS1 : Nat) (loS2 hiS2 : Nat) (aS2 : Option Addr) (cS2 : Nat) (loS3 hiS3 : Nat) (aS3 : Option Addr) (cS3 : Nat), Lies loL hiL W (dOp lL) (.slice aL lL.length cL) → hiL ≤ W.heap.size → Lies loS1 hiS1 W (ints PS.f1) (.slice aS1 PS.f1.length cS1) → hiS1 ≤ W.heap.size → Lies loS2 hiS2 W (ints PS.f2) (.slice aS2 PS.f2.length cS2) → hiS2 ≤ W.heap.size → Lies loS3 hiS3 W (ints PS.f3) (.slice aS3 PS.f3.length cS3) → hiS3 ≤ W.heap.size → Calls Try.prog 33 #[.slice aL lL.length cL, (Value.agg #[.int .i64 PS.f0, .slice aS1 PS.f1.length cS1, .slice aS2 PS.f2.length cS2, .slice aS3 PS.f3.length cS3]), .int .i64 zV] W (fun e w' => ∃ (xR1 : Option Addr) (yR1 : Nat) (SR1 : Nat → Prop) (xR2 : Option Addr) (yR2 : Nat) (SR2 : Nat → Prop) (xR3 : Option Addr) (yR3 : Nat) (SR3 : Nat → Prop), e = .returned (Value.agg #[.int .i64 R.f0, .slice xR1 R.f1.length yR1, .slice xR2 R.f2.length yR2, .slice xR3 R.f3.length yR3]) ∧ Owns w' (ints R.f1) (.slice xR1 R.f1.length yR1) SR1 ∧ Owns w' (ints R.f2) (.slice xR2 R.f2.length yR2) SR2 ∧ Owns w' (ints R.f3) (.slice xR3 R.f3.length yR3) SR3 ∧ (∀ t, SR1 t → W.heap.size ≤ t ∧ t < w'.heap.size) ∧ (∀ t, SR2 t → W.heap.size ≤ t ∧ t < w'.heap.size) ∧ (∀ t, SR3 t → W.heap.size ≤ t ∧ t < w'.heap.size) ∧ Far xR1 R.f1.length xR2 R.f2.length ∧ Far xR1 R.f1.length xR3 R.f3.length ∧ Far xR2 R.f2.length xR3 R.f3.length ∧ Below W.heap.size W w') := by
    intro W loL hiL aL cL loS1 hiS1 aS1 cS1 loS2 hiS2 aS2 cS2 loS3 hiS3 aS3 cS3 hL sL hS1 sS1 hS2 sS2 hS3 sS3
    rw [← hR]
    exact step_spec loL hiL W aL cL lL hL sL lL16 PS aS1 cS1 aS2 cS2 aS3 cS3 (St.of hS1 hS2 hS3 sS1 sS2 sS3) mS1 mS2 mS3 zV
  have hI : ∀ (W : World) (loL hiL : Nat) (aL : Option Addr) (cL : Nat) (loS1 hiS1 : Nat) (aS1 : Option Addr) (cS1 : Nat) (loS2 hiS2 : Nat) (aS2 : Option Addr) (cS2 : Nat) (loS3 hiS3 : Nat) (aS3 : Option Addr) (cS3 : Nat), Lies loL hiL W (dOp lL) (.slice aL lL.length cL) → hiL ≤ W.heap.size → Lies loS1 hiS1 W (ints PS.f1) (.slice aS1 PS.f1.length cS1) → hiS1 ≤ W.heap.size → Lies loS2 hiS2 W (ints PS.f2) (.slice aS2 PS.f2.length cS2) → hiS2 ≤ W.heap.size → Lies loS3 hiS3 W (ints PS.f3) (.slice aS3 PS.f3.length cS3) → hiS3 ≤ W.heap.size → Calls Try.prog 12 #[.slice aL lL.length cL, (Value.agg #[.int .i64 PS.f0, .slice aS1 PS.f1.length cS1, .slice aS2 PS.f2.length cS2, .slice aS3 PS.f3.length cS3]), .int .i64 zV] W (fun e w' => ∃ (xR1 : Option Addr) (yR1 : Nat) (SR1 : Nat → Prop) (xR2 : Option Addr) (yR2 : Nat) (SR2 : Nat → Prop) (xR3 : Option Addr) (yR3 : Nat) (SR3 : Nat → Prop), e = .returned (Value.agg #[.int .i64 R.f0, .slice xR1 R.f1.length yR1, .slice xR2 R.f2.length yR2, .slice xR3 R.f3.length yR3]) ∧ Owns w' (ints R.f1) (.slice xR1 R.f1.length yR1) SR1 ∧ Owns w' (ints R.f2) (.slice xR2 R.f2.length yR2) SR2 ∧ Owns w' (ints R.f3) (.slice xR3 R.f3.length yR3) SR3 ∧ (∀ t, SR1 t → W.heap.size ≤ t ∧ t < w'.heap.size) ∧ (∀ t, SR2 t → W.heap.size ≤ t ∧ t < w'.heap.size) ∧ (∀ t, SR3 t → W.heap.size ≤ t ∧ t < w'.heap.size) ∧ Far xR1 R.f1.length xR2 R.f2.length ∧ Far xR1 R.f1.length xR3 R.f3.length ∧ Far xR2 R.f2.length xR3 R.f3.length ∧ Below W.heap.size W w') := by
    intro W loL hiL aL cL loS1 hiS1 aS1 cS1 loS2 hiS2 aS2 cS2 loS3 hiS3 aS3 cS3 hL sL hS1 sS1 hS2 sS2 hS3 sS3
    rw [← hR]
    exact implC.step loL hiL W aL cL lL hL sL lL16 PS aS1 cS1 aS2 cS2 aS3 cS3 (St.of hS1 hS2 hS3 sS1 sS2 sS3) mS1 mS2 mS3 bS0 zV
  clear hR
  go_upto_region 8 with fail
  go_cut [8] (fun s0 wx => ∃ (V : World) (bR : Nat) (xR1 : Option Addr) (yR1 : Nat) (SR1 : Nat → Prop) (xR2 : Option Addr) (yR2 : Nat) (SR2 : Nat → Prop) (xR3 : Option Addr) (yR3 : Nat) (SR3 : Nat → Prop), V = wx ∧ s0 = .pointer (some ⟨bR, 0, none⟩) ∧ Blk 27 bR [Value.int .i64 R.f0, .slice xR1 R.f1.length yR1, .slice xR2 R.f2.length yR2, .slice xR3 R.f3.length yR3] V ∧ (w.heap.size + 1 ≤ bR) ∧ bR < V.heap.size ∧ (w2.heap.size ≤ bR) ∧ Owns V (ints R.f1) (.slice xR1 R.f1.length yR1) SR1 ∧ Owns V (ints R.f2) (.slice xR2 R.f2.length yR2) SR2 ∧ Owns V (ints R.f3) (.slice xR3 R.f3.length yR3) SR3 ∧ (∀ t, SR1 t → w2.heap.size ≤ t ∧ t < V.heap.size) ∧ (∀ t, SR2 t → w2.heap.size ≤ t ∧ t < V.heap.size) ∧ (∀ t, SR3 t → w2.heap.size ≤ t ∧ t < V.heap.size) ∧ Far xR1 R.f1.length xR2 R.f2.length ∧ Far xR1 R.f1.length xR3 R.f3.length ∧ Far xR2 R.f2.length xR3 R.f3.length ∧ ¬ SR1 bR ∧ ¬ SR2 bR ∧ ¬ SR3 bR ∧ Below w2.heap.size w2 V)
  case first =>
    have hq0 : w.heap.size ≤ w2.heap.size := hB2.size
    have hW0 : Below w2.heap.size w2 w2 := Below.refl _ _
    have ee0 : Below w2.heap.size w2 w2 := Below.refl _ _
    have ed0 : Below w2.heap.size w2 w2.drew := (Below.refl _ _).drew
    have ea0 : Below w2.heap.size w2 (w2.alloc (.cells #[Value.int .i64 0, .slice none 0 0, .slice none 0 0, .slice none 0 0] 27)).drew := ((Below.refl _ _).alloc (Nat.le_refl _) _).drew
    have s3 : w2.drew.cell? ⟨w.heap.size, 0, none⟩ = some (.int .i64 PS.f0) ∧ w2.drew.cell? ⟨w.heap.size, 1, none⟩ = some (.slice aS1 PS.f1.length cS1) ∧ w2.drew.cell? ⟨w.heap.size, 2, none⟩ = some (.slice aS2 PS.f2.length cS2) ∧ w2.drew.cell? ⟨w.heap.size, 3, none⟩ = some (.slice aS3 PS.f3.length cS3) := ⟨(Blk.drew kS).at rfl, (Blk.drew kS).at rfl, (Blk.drew kS).at rfl, (Blk.drew kS).at rfl⟩
    have t3 : (w2.alloc (.cells #[Value.int .i64 0, .slice none 0 0, .slice none 0 0, .slice none 0 0] 27)).drew.cell? ⟨w.heap.size, 0, none⟩ = some (.int .i64 PS.f0) ∧ (w2.alloc (.cells #[Value.int .i64 0, .slice none 0 0, .slice none 0 0, .slice none 0 0] 27)).drew.cell? ⟨w.heap.size, 1, none⟩ = some (.slice aS1 PS.f1.length cS1) ∧ (w2.alloc (.cells #[Value.int .i64 0, .slice none 0 0, .slice none 0 0, .slice none 0 0] 27)).drew.cell? ⟨w.heap.size, 2, none⟩ = some (.slice aS2 PS.f2.length cS2) ∧ (w2.alloc (.cells #[Value.int .i64 0, .slice none 0 0, .slice none 0 0, .slice none 0 0] 27)).drew.cell? ⟨w.heap.size, 3, none⟩ = some (.slice aS3 PS.f3.length cS3) := ⟨(Blk.drew (Blk.alloc kS _)).at rfl, (Blk.drew (Blk.alloc kS _)).at rfl, (Blk.drew (Blk.alloc kS _)).at rfl, (Blk.drew (Blk.alloc kS _)).at rfl⟩
    go_wp2_with fail
    go_region_held3 (fun w' => w'.cell? ⟨w.heap.size, 0, none⟩ = some (.int .i64 PS.f0) ∧ w'.cell? ⟨w.heap.size, 1, none⟩ = some (.slice aS1 PS.f1.length cS1) ∧ w'.cell? ⟨w.heap.size, 2, none⟩ = some (.slice aS2 PS.f2.length cS2) ∧ w'.cell? ⟨w.heap.size, 3, none⟩ = some (.slice aS3 PS.f3.length cS3))
      (first | (with_reducible exact s3) | (with_reducible exact t3) | (with_reducible exact t4) | (with_reducible exact v3) | go_keep)
      (first
      | (go_at_call 30; refine Calls.mono (gto_OpS (lo := 0) (hi := w.heap.size) (fL.below (w := w2) (by first | (with_reducible exact ee0) | (with_reducible exact ed0) | (with_reducible exact ea0))) (Nat.le_trans hq0 (Below.size (B := w2.heap.size) (w := w2) (by first | (with_reducible exact ee0) | (with_reducible exact ed0) | (with_reducible exact ea0)))) (by omega)) ?_; rintro e u1 ⟨v1, rfl, ho, hb⟩; have hx1 := hb; have hv1 : Below w2.heap.size w2 u1 := Below.trans (show Below w2.heap.size w2 _ from (by first | (with_reducible exact ee0) | (with_reducible exact ed0) | (with_reducible exact ea0))) (hb.mono (Below.size (B := w2.heap.size) (w := w2) (by first | (with_reducible exact ee0) | (with_reducible exact ed0) | (with_reducible exact ea0)))); have fL := fL.below hv1; have fS1 := fS1.below hv1; have fS2 := fS2.below hv1; have fS3 := fS3.below hv1; have kS := kS.below hv1; obtain ⟨XL, YL, rfl, _⟩ : ∃ a c, v1 = .slice a lL.length c ∧ True := (by obtain ⟨a, c, q, _⟩ := ho; exact ⟨a, c, q, trivial⟩); have qL := Owns.lies (lo := 0) (hi := u1.heap.size) ho (fun t h => ⟨Nat.zero_le _, h.2⟩); clear ho; have hq1 := Nat.le_trans hq0 hv1.size; have hz1 := hv1.size; have ee1 : Below u1.heap.size u1 u1 := Below.refl _ _; have ed1 := ee1; have ea1 : Below u1.heap.size u1 (u1.alloc (.cells #[Value.int .i64 0, .slice none 0 0, .slice none 0 0, .slice none 0 0] 27)) := (Below.refl _ _).alloc (Nat.le_refl _) _; have hW1 := hW0.trans (hv1.mono hW0.size); have s3 : u1.cell? ⟨w.heap.size, 0, none⟩ = some (.int .i64 PS.f0) ∧ u1.cell? ⟨w.heap.size, 1, none⟩ = some (.slice aS1 PS.f1.length cS1) ∧ u1.cell? ⟨w.heap.size, 2, none⟩ = some (.slice aS2 PS.f2.length cS2) ∧ u1.cell? ⟨w.heap.size, 3, none⟩ = some (.slice aS3 PS.f3.length cS3) := ⟨(kS).at rfl, (kS).at rfl, (kS).at rfl, (kS).at rfl⟩; clear hb; have t3 : (u1.alloc (.cells #[Value.int .i64 0, .slice none 0 0, .slice none 0 0, .slice none 0 0] 27)).cell? ⟨w.heap.size, 0, none⟩ = some (.int .i64 PS.f0) ∧ (u1.alloc (.cells #[Value.int .i64 0, .slice none 0 0, .slice none 0 0, .slice none 0 0] 27)).cell? ⟨w.heap.size, 1, none⟩ = some (.slice aS1 PS.f1.length cS1) ∧ (u1.alloc (.cells #[Value.int .i64 0, .slice none 0 0, .slice none 0 0, .slice none 0 0] 27)).cell? ⟨w.heap.size, 2, none⟩ = some (.slice aS2 PS.f2.length cS2) ∧ (u1.alloc (.cells #[Value.int .i64 0, .slice none 0 0, .slice none 0 0, .slice none 0 0] 27)).cell? ⟨w.heap.size, 3, none⟩ = some (.slice aS3 PS.f3.length cS3) := ⟨(Blk.alloc kS _).at rfl, (Blk.alloc kS _).at rfl, (Blk.alloc kS _).at rfl, (Blk.alloc kS _).at rfl⟩)
      | (go_at_call 27; refine Calls.mono (gto_State (lo := 0) (hi := w.heap.size) PS (fS1.below (w := u1) (by first | (with_reducible exact ee1) | (with_reducible exact ed1) | (with_reducible exact ea1))) (fS2.below (w := u1) (by first | (with_reducible exact ee1) | (with_reducible exact ed1) | (with_reducible exact ea1))) (fS3.below (w := u1) (by first | (with_reducible exact ee1) | (with_reducible exact ed1) | (with_reducible exact ea1))) (Nat.le_trans hq1 (Below.size (B := u1.heap.size) (w := u1) (by first | (with_reducible exact ee1) | (with_reducible exact ed1) | (with_reducible exact ea1)))) (by omega) (by omega) (by omega)) ?_; rintro e u2 ⟨XS1, YS1, XS2, YS2, XS3, YS3, mS1, mS2, rfl, ho1, ho2, ho3, onS0, onS1, onS2, hb⟩; have hx2 := hb; have hv2 : Below u1.heap.size u1 u2 := Below.trans (show Below u1.heap.size u1 _ from (by first | (with_reducible exact ee1) | (with_reducible exact ed1) | (with_reducible exact ea1))) (hb.mono (Below.size (B := u1.heap.size) (w := u1) (by first | (with_reducible exact ee1) | (with_reducible exact ed1) | (with_reducible exact ea1)))); have qL := Lies.below qL hv2; have fL := fL.below hv2; have fS1 := fS1.below hv2; have fS2 := fS2.below hv2; have fS3 := fS3.below hv2; have kS := kS.below hv2; have qS1 := Owns.lies (lo := 0) (hi := u2.heap.size) ho1 (fun t h => ⟨Nat.zero_le _, by have := h.2; omega⟩); have qS2 := Owns.lies (lo := 0) (hi := u2.heap.size) ho2 (fun t h => ⟨Nat.zero_le _, by have := h.2; omega⟩); have qS3 := Owns.lies (lo := 0) (hi := u2.heap.size) ho3 (fun t h => ⟨Nat.zero_le _, by have := h.2; omega⟩); clear ho1 ho2 ho3 onS0 onS1 onS2; have hq2 := Nat.le_trans hq1 hv2.size; have hz2 := hv2.size; have ee2 : Below u2.heap.size u2 u2 := Below.refl _ _; have ed2 := ee2; have ea2 : Below u2.heap.size u2 (u2.alloc (.cells #[Value.int .i64 0, .slice none 0 0, .slice none 0 0, .slice none 0 0] 27)) := (Below.refl _ _).alloc (Nat.le_refl _) _; have hW2 := hW1.trans (hv2.mono hW1.size); have s3 : u2.cell? ⟨w.heap.size, 0, none⟩ = some (.int .i64 PS.f0) ∧ u2.cell? ⟨w.heap.size, 1, none⟩ = some (.slice aS1 PS.f1.length cS1) ∧ u2.cell? ⟨w.heap.size, 2, none⟩ = some (.slice aS2 PS.f2.length cS2) ∧ u2.cell? ⟨w.heap.size, 3, none⟩ = some (.slice aS3 PS.f3.length cS3) := ⟨(kS).at rfl, (kS).at rfl, (kS).at rfl, (kS).at rfl⟩; clear hb; have t3 : (u2.alloc (.cells #[Value.int .i64 0, .slice none 0 0, .slice none 0 0, .slice none 0 0] 27)).cell? ⟨w.heap.size, 0, none⟩ = some (.int .i64 PS.f0) ∧ (u2.alloc (.cells #[Value.int .i64 0, .slice none 0 0, .slice none 0 0, .slice none 0 0] 27)).cell? ⟨w.heap.size, 1, none⟩ = some (.slice aS1 PS.f1.length cS1) ∧ (u2.alloc (.cells #[Value.int .i64 0, .slice none 0 0, .slice none 0 0, .slice none 0 0] 27)).cell? ⟨w.heap.size, 2, none⟩ = some (.slice aS2 PS.f2.length cS2) ∧ (u2.alloc (.cells #[Value.int .i64 0, .slice none 0 0, .slice none 0 0, .slice none 0 0] 27)).cell? ⟨w.heap.size, 3, none⟩ = some (.slice aS3 PS.f3.length cS3) := ⟨(Blk.alloc kS _).at rfl, (Blk.alloc kS _).at rfl, (Blk.alloc kS _).at rfl, (Blk.alloc kS _).at rfl⟩)
      | (go_at_call 33; refine Calls.mono (hS _ _ _ _ _ _ _ _ _ _ _ _ _ _ _ _ _ (Lies.below (w := u2) qL (by first | (with_reducible exact ee2) | (with_reducible exact ed2) | (with_reducible exact ea2))) (Nat.le_trans (by omega) (Below.size (B := u2.heap.size) (w := u2) (by first | (with_reducible exact ee2) | (with_reducible exact ed2) | (with_reducible exact ea2)))) (Lies.below (w := u2) qS1 (by first | (with_reducible exact ee2) | (with_reducible exact ed2) | (with_reducible exact ea2))) (Nat.le_trans (by omega) (Below.size (B := u2.heap.size) (w := u2) (by first | (with_reducible exact ee2) | (with_reducible exact ed2) | (with_reducible exact ea2)))) (Lies.below (w := u2) qS2 (by first | (with_reducible exact ee2) | (with_reducible exact ed2) | (with_reducible exact ea2))) (Nat.le_trans (by omega) (Below.size (B := u2.heap.size) (w := u2) (by first | (with_reducible exact ee2) | (with_reducible exact ed2) | (with_reducible exact ea2)))) (Lies.below (w := u2) qS3 (by first | (with_reducible exact ee2) | (with_reducible exact ed2) | (with_reducible exact ea2))) (Nat.le_trans (by omega) (Below.size (B := u2.heap.size) (w := u2) (by first | (with_reducible exact ee2) | (with_reducible exact ed2) | (with_reducible exact ea2))))) ?_; rintro e u3 ⟨xR1, yR1, SR1, xR2, yR2, SR2, xR3, yR3, SR3, rfl, roR1, roR2, roR3, suR1, suR2, suR3, diR1_R2, diR1_R3, diR2_R3, hb⟩; have hx3 := hb; have hv3 : Below u2.heap.size u2 u3 := Below.trans (show Below u2.heap.size u2 _ from (by first | (with_reducible exact ee2) | (with_reducible exact ed2) | (with_reducible exact ea2))) (hb.mono (Below.size (B := u2.heap.size) (w := u2) (by first | (with_reducible exact ee2) | (with_reducible exact ed2) | (with_reducible exact ea2)))); have qL := Lies.below qL hv3; have qS1 := Lies.below qS1 hv3; have qS2 := Lies.below qS2 hv3; have qS3 := Lies.below qS3 hv3; have fL := fL.below hv3; have fS1 := fS1.below hv3; have fS2 := fS2.below hv3; have fS3 := fS3.below hv3; have kS := kS.below hv3; have szR1 := hb.size; have szR2 := hb.size; have szR3 := hb.size; have hq3 := Nat.le_trans hq2 hv3.size; have hz3 := hv3.size; have ee3 : Below u3.heap.size u3 u3 := Below.refl _ _; have ed3 := ee3; have ea3 : Below u3.heap.size u3 (u3.alloc (.cells #[Value.int .i64 0, .slice none 0 0, .slice none 0 0, .slice none 0 0] 27)) := (Below.refl _ _).alloc (Nat.le_refl _) _; have hW3 := hW2.trans (hv3.mono hW2.size); have s3 : u3.cell? ⟨w.heap.size, 0, none⟩ = some (.int .i64 PS.f0) ∧ u3.cell? ⟨w.heap.size, 1, none⟩ = some (.slice aS1 PS.f1.length cS1) ∧ u3.cell? ⟨w.heap.size, 2, none⟩ = some (.slice aS2 PS.f2.length cS2) ∧ u3.cell? ⟨w.heap.size, 3, none⟩ = some (.slice aS3 PS.f3.length cS3) := ⟨(kS).at rfl, (kS).at rfl, (kS).at rfl, (kS).at rfl⟩; clear hb; have t4 : (u3.alloc (.cells #[Value.int .i64 R.f0, .slice xR1 R.f1.length yR1, .slice xR2 R.f2.length yR2, .slice xR3 R.f3.length yR3] 27)).cell? ⟨w.heap.size, 0, none⟩ = some (.int .i64 PS.f0) ∧ (u3.alloc (.cells #[Value.int .i64 R.f0, .slice xR1 R.f1.length yR1, .slice xR2 R.f2.length yR2, .slice xR3 R.f3.length yR3] 27)).cell? ⟨w.heap.size, 1, none⟩ = some (.slice aS1 PS.f1.length cS1) ∧ (u3.alloc (.cells #[Value.int .i64 R.f0, .slice xR1 R.f1.length yR1, .slice xR2 R.f2.length yR2, .slice xR3 R.f3.length yR3] 27)).cell? ⟨w.heap.size, 2, none⟩ = some (.slice aS2 PS.f2.length cS2) ∧ (u3.alloc (.cells #[Value.int .i64 R.f0, .slice xR1 R.f1.length yR1, .slice xR2 R.f2.length yR2, .slice xR3 R.f3.length yR3] 27)).cell? ⟨w.heap.size, 3, none⟩ = some (.slice aS3 PS.f3.length cS3) := ⟨(Blk.alloc kS _).at rfl, (Blk.alloc kS _).at rfl, (Blk.alloc kS _).at rfl, (Blk.alloc kS _).at rfl⟩; (first | ((with_reducible have qb := ((((Blk.drew (Blk.new 27 [Value.int .i64 0, .slice none 0 0, .slice none 0 0, .slice none 0 0] w2)).below hx1).below hx2).below hx3)); (with_reducible have lb := Blk.lt (((Blk.drew (Blk.new 27 [Value.int .i64 0, .slice none 0 0, .slice none 0 0, .slice none 0 0] w2)).below hx1).below hx2)); (try simp only [gsize_alloc] at lb); (try simp only [gsize_drew] at lb); have o0 := qb.at (x := 0) rfl; have o'0 := qb.free 0; have o1 := qb.at (x := 1) rfl; have o'1 := qb.free 1; have o2 := qb.at (x := 2) rfl; have o'2 := qb.free 2; have o3 := qb.at (x := 3) rfl; have o'3 := qb.free 3; have KkS := ((((kS.other (a := ⟨w2.heap.size, 0, none⟩) (.int .i64 R.f0) (by dsimp only; omega)).other (a := ⟨w2.heap.size, 1, none⟩) (.slice xR1 R.f1.length yR1) (by dsimp only; omega)).other (a := ⟨w2.heap.size, 2, none⟩) (.slice xR2 R.f2.length yR2) (by dsimp only; omega)).other (a := ⟨w2.heap.size, 3, none⟩) (.slice xR3 R.f3.length yR3) (by dsimp only; omega)); have v3 : ((((u3.setCell ⟨w2.heap.size, 0, none⟩ (.int .i64 R.f0)).setCell ⟨w2.heap.size, 1, none⟩ (.slice xR1 R.f1.length yR1)).setCell ⟨w2.heap.size, 2, none⟩ (.slice xR2 R.f2.length yR2)).setCell ⟨w2.heap.size, 3, none⟩ (.slice xR3 R.f3.length yR3)).cell? ⟨w.heap.size, 0, none⟩ = some (.int .i64 PS.f0) ∧ ((((u3.setCell ⟨w2.heap.size, 0, none⟩ (.int .i64 R.f0)).setCell ⟨w2.heap.size, 1, none⟩ (.slice xR1 R.f1.length yR1)).setCell ⟨w2.heap.size, 2, none⟩ (.slice xR2 R.f2.length yR2)).setCell ⟨w2.heap.size, 3, none⟩ (.slice xR3 R.f3.length yR3)).cell? ⟨w.heap.size, 1, none⟩ = some (.slice aS1 PS.f1.length cS1) ∧ ((((u3.setCell ⟨w2.heap.size, 0, none⟩ (.int .i64 R.f0)).setCell ⟨w2.heap.size, 1, none⟩ (.slice xR1 R.f1.length yR1)).setCell ⟨w2.heap.size, 2, none⟩ (.slice xR2 R.f2.length yR2)).setCell ⟨w2.heap.size, 3, none⟩ (.slice xR3 R.f3.length yR3)).cell? ⟨w.heap.size, 2, none⟩ = some (.slice aS2 PS.f2.length cS2) ∧ ((((u3.setCell ⟨w2.heap.size, 0, none⟩ (.int .i64 R.f0)).setCell ⟨w2.heap.size, 1, none⟩ (.slice xR1 R.f1.length yR1)).setCell ⟨w2.heap.size, 2, none⟩ (.slice xR2 R.f2.length yR2)).setCell ⟨w2.heap.size, 3, none⟩ (.slice xR3 R.f3.length yR3)).cell? ⟨w.heap.size, 3, none⟩ = some (.slice aS3 PS.f3.length cS3) := ⟨KkS.at rfl, KkS.at rfl, KkS.at rfl, KkS.at rfl⟩) | ((with_reducible have qb := (((Blk.new 27 [Value.int .i64 0, .slice none 0 0, .slice none 0 0, .slice none 0 0] u1).below hx2).below hx3)); (with_reducible have lb := Blk.lt ((Blk.new 27 [Value.int .i64 0, .slice none 0 0, .slice none 0 0, .slice none 0 0] u1).below hx2)); (try simp only [gsize_alloc] at lb); (try simp only [gsize_drew] at lb); have o0 := qb.at (x := 0) rfl; have o'0 := qb.free 0; have o1 := qb.at (x := 1) rfl; have o'1 := qb.free 1; have o2 := qb.at (x := 2) rfl; have o'2 := qb.free 2; have o3 := qb.at (x := 3) rfl; have o'3 := qb.free 3; have KkS := ((((kS.other (a := ⟨u1.heap.size, 0, none⟩) (.int .i64 R.f0) (by dsimp only; omega)).other (a := ⟨u1.heap.size, 1, none⟩) (.slice xR1 R.f1.length yR1) (by dsimp only; omega)).other (a := ⟨u1.heap.size, 2, none⟩) (.slice xR2 R.f2.length yR2) (by dsimp only; omega)).other (a := ⟨u1.heap.size, 3, none⟩) (.slice xR3 R.f3.length yR3) (by dsimp only; omega)); have v3 : ((((u3.setCell ⟨u1.heap.size, 0, none⟩ (.int .i64 R.f0)).setCell ⟨u1.heap.size, 1, none⟩ (.slice xR1 R.f1.length yR1)).setCell ⟨u1.heap.size, 2, none⟩ (.slice xR2 R.f2.length yR2)).setCell ⟨u1.heap.size, 3, none⟩ (.slice xR3 R.f3.length yR3)).cell? ⟨w.heap.size, 0, none⟩ = some (.int .i64 PS.f0) ∧ ((((u3.setCell ⟨u1.heap.size, 0, none⟩ (.int .i64 R.f0)).setCell ⟨u1.heap.size, 1, none⟩ (.slice xR1 R.f1.length yR1)).setCell ⟨u1.heap.size, 2, none⟩ (.slice xR2 R.f2.length yR2)).setCell ⟨u1.heap.size, 3, none⟩ (.slice xR3 R.f3.length yR3)).cell? ⟨w.heap.size, 1, none⟩ = some (.slice aS1 PS.f1.length cS1) ∧ ((((u3.setCell ⟨u1.heap.size, 0, none⟩ (.int .i64 R.f0)).setCell ⟨u1.heap.size, 1, none⟩ (.slice xR1 R.f1.length yR1)).setCell ⟨u1.heap.size, 2, none⟩ (.slice xR2 R.f2.length yR2)).setCell ⟨u1.heap.size, 3, none⟩ (.slice xR3 R.f3.length yR3)).cell? ⟨w.heap.size, 2, none⟩ = some (.slice aS2 PS.f2.length cS2) ∧ ((((u3.setCell ⟨u1.heap.size, 0, none⟩ (.int .i64 R.f0)).setCell ⟨u1.heap.size, 1, none⟩ (.slice xR1 R.f1.length yR1)).setCell ⟨u1.heap.size, 2, none⟩ (.slice xR2 R.f2.length yR2)).setCell ⟨u1.heap.size, 3, none⟩ (.slice xR3 R.f3.length yR3)).cell? ⟨w.heap.size, 3, none⟩ = some (.slice aS3 PS.f3.length cS3) := ⟨KkS.at rfl, KkS.at rfl, KkS.at rfl, KkS.at rfl⟩) | ((with_reducible have qb := ((Blk.new 27 [Value.int .i64 0, .slice none 0 0, .slice none 0 0, .slice none 0 0] u2).below hx3)); (with_reducible have lb := Blk.lt (Blk.new 27 [Value.int .i64 0, .slice none 0 0, .slice none 0 0, .slice none 0 0] u2)); (try simp only [gsize_alloc] at lb); (try simp only [gsize_drew] at lb); have o0 := qb.at (x := 0) rfl; have o'0 := qb.free 0; have o1 := qb.at (x := 1) rfl; have o'1 := qb.free 1; have o2 := qb.at (x := 2) rfl; have o'2 := qb.free 2; have o3 := qb.at (x := 3) rfl; have o'3 := qb.free 3; have KkS := ((((kS.other (a := ⟨u2.heap.size, 0, none⟩) (.int .i64 R.f0) (by dsimp only; omega)).other (a := ⟨u2.heap.size, 1, none⟩) (.slice xR1 R.f1.length yR1) (by dsimp only; omega)).other (a := ⟨u2.heap.size, 2, none⟩) (.slice xR2 R.f2.length yR2) (by dsimp only; omega)).other (a := ⟨u2.heap.size, 3, none⟩) (.slice xR3 R.f3.length yR3) (by dsimp only; omega)); have v3 : ((((u3.setCell ⟨u2.heap.size, 0, none⟩ (.int .i64 R.f0)).setCell ⟨u2.heap.size, 1, none⟩ (.slice xR1 R.f1.length yR1)).setCell ⟨u2.heap.size, 2, none⟩ (.slice xR2 R.f2.length yR2)).setCell ⟨u2.heap.size, 3, none⟩ (.slice xR3 R.f3.length yR3)).cell? ⟨w.heap.size, 0, none⟩ = some (.int .i64 PS.f0) ∧ ((((u3.setCell ⟨u2.heap.size, 0, none⟩ (.int .i64 R.f0)).setCell ⟨u2.heap.size, 1, none⟩ (.slice xR1 R.f1.length yR1)).setCell ⟨u2.heap.size, 2, none⟩ (.slice xR2 R.f2.length yR2)).setCell ⟨u2.heap.size, 3, none⟩ (.slice xR3 R.f3.length yR3)).cell? ⟨w.heap.size, 1, none⟩ = some (.slice aS1 PS.f1.length cS1) ∧ ((((u3.setCell ⟨u2.heap.size, 0, none⟩ (.int .i64 R.f0)).setCell ⟨u2.heap.size, 1, none⟩ (.slice xR1 R.f1.length yR1)).setCell ⟨u2.heap.size, 2, none⟩ (.slice xR2 R.f2.length yR2)).setCell ⟨u2.heap.size, 3, none⟩ (.slice xR3 R.f3.length yR3)).cell? ⟨w.heap.size, 2, none⟩ = some (.slice aS2 PS.f2.length cS2) ∧ ((((u3.setCell ⟨u2.heap.size, 0, none⟩ (.int .i64 R.f0)).setCell ⟨u2.heap.size, 1, none⟩ (.slice xR1 R.f1.length yR1)).setCell ⟨u2.heap.size, 2, none⟩ (.slice xR2 R.f2.length yR2)).setCell ⟨u2.heap.size, 3, none⟩ (.slice xR3 R.f3.length yR3)).cell? ⟨w.heap.size, 3, none⟩ = some (.slice aS3 PS.f3.length cS3) := ⟨KkS.at rfl, KkS.at rfl, KkS.at rfl, KkS.at rfl⟩) | skip); have t3 : (u3.alloc (.cells #[Value.int .i64 0, .slice none 0 0, .slice none 0 0, .slice none 0 0] 27)).cell? ⟨w.heap.size, 0, none⟩ = some (.int .i64 PS.f0) ∧ (u3.alloc (.cells #[Value.int .i64 0, .slice none 0 0, .slice none 0 0, .slice none 0 0] 27)).cell? ⟨w.heap.size, 1, none⟩ = some (.slice aS1 PS.f1.length cS1) ∧ (u3.alloc (.cells #[Value.int .i64 0, .slice none 0 0, .slice none 0 0, .slice none 0 0] 27)).cell? ⟨w.heap.size, 2, none⟩ = some (.slice aS2 PS.f2.length cS2) ∧ (u3.alloc (.cells #[Value.int .i64 0, .slice none 0 0, .slice none 0 0, .slice none 0 0] 27)).cell? ⟨w.heap.size, 3, none⟩ = some (.slice aS3 PS.f3.length cS3) := ⟨(Blk.alloc kS _).at rfl, (Blk.alloc kS _).at rfl, (Blk.alloc kS _).at rfl, (Blk.alloc kS _).at rfl⟩)
      )
    all_goals
      go_wp2_with fail
      go_meet
      case rel =>
        first
        | exact ⟨_, _, _, _, SR1, _, _, SR2, _, _, SR3, rfl, rfl, ((((qb.set 0 (.int .i64 R.f0)).set 1 (.slice xR1 R.f1.length yR1)).set 2 (.slice xR2 R.f2.length yR2)).set 3 (.slice xR3 R.f3.length yR3)), (by (try simp only [gsize_drew]); omega), (by simp only [gsize_set]; exact qb.lt), (by (try simp only [gsize_drew]); omega), (Owns.keep roR1 fun t _ hS => by have q := suR1 t hS; (try simp only [gsize_alloc] at q); (try simp only [gsize_drew] at q); (iterate 4 (refine Eq.trans (Below.heap_setCell _ _ _ _ (by dsimp only; (try simp only [gsize_drew]); omega)) ?_)); rfl), (Owns.keep roR2 fun t _ hS => by have q := suR2 t hS; (try simp only [gsize_alloc] at q); (try simp only [gsize_drew] at q); (iterate 4 (refine Eq.trans (Below.heap_setCell _ _ _ _ (by dsimp only; (try simp only [gsize_drew]); omega)) ?_)); rfl), (Owns.keep roR3 fun t _ hS => by have q := suR3 t hS; (try simp only [gsize_alloc] at q); (try simp only [gsize_drew] at q); (iterate 4 (refine Eq.trans (Below.heap_setCell _ _ _ _ (by dsimp only; (try simp only [gsize_drew]); omega)) ?_)); rfl), (fun t hS => by have q := suR1 t hS; (try simp only [gsize_alloc] at q); (try simp only [gsize_drew] at q); (try simp only [gsize_alloc]); (try simp only [gsize_set]); omega), (fun t hS => by have q := suR2 t hS; (try simp only [gsize_alloc] at q); (try simp only [gsize_drew] at q); (try simp only [gsize_alloc]); (try simp only [gsize_set]); omega), (fun t hS => by have q := suR3 t hS; (try simp only [gsize_alloc] at q); (try simp only [gsize_drew] at q); (try simp only [gsize_alloc]); (try simp only [gsize_set]); omega), diR1_R2, diR1_R3, diR2_R3, (fun hS => by have q := suR1 _ hS; (try simp only [gsize_alloc] at q); (try simp only [gsize_drew] at q); omega), (fun hS => by have q := suR2 _ hS; (try simp only [gsize_alloc] at q); (try simp only [gsize_drew] at q); omega), (fun hS => by have q := suR3 _ hS; (try simp only [gsize_alloc] at q); (try simp only [gsize_drew] at q); omega), (by (iterate 4 (refine Below.setCell ?_ (by (try dsimp only); (try simp only [gsize_drew]); omega) _)); exact hW3)⟩
        | exact ⟨_, _, _, _, SR1, _, _, SR2, _, _, SR3, rfl, rfl, Blk.new _ [Value.int .i64 R.f0, .slice xR1 R.f1.length yR1, .slice xR2 R.f2.length yR2, .slice xR3 R.f3.length yR3] u3, (by omega), (by rw [gsize_alloc]; omega), (by omega), (Owns.below roR1 ((Below.refl _ _).alloc (Nat.le_refl _) _)), (Owns.below roR2 ((Below.refl _ _).alloc (Nat.le_refl _) _)), (Owns.below roR3 ((Below.refl _ _).alloc (Nat.le_refl _) _)), (fun t hS => by have q := suR1 t hS; (try simp only [gsize_alloc] at q); (try simp only [gsize_drew] at q); (try simp only [gsize_alloc]); (try simp only [gsize_set]); omega), (fun t hS => by have q := suR2 t hS; (try simp only [gsize_alloc] at q); (try simp only [gsize_drew] at q); (try simp only [gsize_alloc]); (try simp only [gsize_set]); omega), (fun t hS => by have q := suR3 t hS; (try simp only [gsize_alloc] at q); (try simp only [gsize_drew] at q); (try simp only [gsize_alloc]); (try simp only [gsize_set]); omega), diR1_R2, diR1_R3, diR2_R3, (fun hS => by have q := suR1 _ hS; (try simp only [gsize_alloc] at q); (try simp only [gsize_drew] at q); omega), (fun hS => by have q := suR2 _ hS; (try simp only [gsize_alloc] at q); (try simp only [gsize_drew] at q); omega), (fun hS => by have q := suR3 _ hS; (try simp only [gsize_alloc] at q); (try simp only [gsize_drew] at q); omega), (Below.alloc hW3 hW3.size _)⟩
  case rest =>
  obtain ⟨w3, bWR, xWR1, yWR1, SWR1, xWR2, yWR2, SWR2, xWR3, yWR3, SWR3, rfl, rfl, BWR, lbWR, ubWR, mbWR, rWR1, rWR2, rWR3, urWR1, urWR2, urWR3, udWR1_R2, udWR1_R3, udWR2_R3, nbWR1_R, nbWR2_R, nbWR3_R, hb3⟩ := hcut
  have hs3 : w2.heap.size ≤ w3.heap.size := hb3.size
  have fL := fL.below hb3
  have fS1 := fS1.below hb3
  have fS2 := fS2.below hb3
  have fS3 := fS3.below hb3
  have kS := kS.below hb3
  have hB3 := hB2.trans (hb3.mono hB2.size)
  clear hb3
  go_wp2_with fail
  go_at_call 30
  refine Calls.mono (gto_OpS (lo := 0) (hi := w.heap.size) fL hB3.size (by omega)) ?_
  rintro e w4 ⟨v4, rfl, ho4, hb4⟩
  obtain ⟨xxL, yxL, rfl, _⟩ : ∃ a c, v4 = .slice a lL.length c ∧ True := by obtain ⟨a, c, q, _⟩ := ho4; exact ⟨a, c, q, trivial⟩
  have hs4 : w3.heap.size ≤ w4.heap.size := hb4.size
  have fL := fL.below hb4
  have fS1 := fS1.below hb4
  have fS2 := fS2.below hb4
  have fS3 := fS3.below hb4
  have kS := kS.below hb4
  have rWR1 := Owns.below rWR1 hb4
  have rWR2 := Owns.below rWR2 hb4
  have rWR3 := Owns.below rWR3 hb4
  have BWR := BWR.below hb4
  have hB4 := hB3.trans (hb4.mono hB3.size)
  clear hb4
  have gxL := ho4
  clear ho4
  have ugxL : ∀ t, Span w3.heap.size w4.heap.size t → w3.heap.size ≤ t ∧ t < w4.heap.size := fun t h => h
  go_upto_region 10 with fail
  go_cut [10] (fun s0 wx => ∃ (V : World) (bS : Nat) (xS1 : Option Addr) (yS1 : Nat) (SS1 : Nat → Prop) (xS2 : Option Addr) (yS2 : Nat) (SS2 : Nat → Prop) (xS3 : Option Addr) (yS3 : Nat) (SS3 : Nat → Prop), V = wx ∧ s0 = .pointer (some ⟨bS, 0, none⟩) ∧ Blk 27 bS [Value.int .i64 PS.f0, .slice xS1 PS.f1.length yS1, .slice xS2 PS.f2.length yS2, .slice xS3 PS.f3.length yS3] V ∧ (w.heap.size + 1 ≤ bS) ∧ bS < V.heap.size ∧ (w4.heap.size ≤ bS) ∧ Owns V (ints PS.f1) (.slice xS1 PS.f1.length yS1) SS1 ∧ Owns V (ints PS.f2) (.slice xS2 PS.f2.length yS2) SS2 ∧ Owns V (ints PS.f3) (.slice xS3 PS.f3.length yS3) SS3 ∧ (∀ t, SS1 t → w4.heap.size ≤ t ∧ t < V.heap.size) ∧ (∀ t, SS2 t → w4.heap.size ≤ t ∧ t < V.heap.size) ∧ (∀ t, SS3 t → w4.heap.size ≤ t ∧ t < V.heap.size) ∧ (∀ t, SS1 t → ¬ SS2 t) ∧ (∀ t, SS1 t → ¬ SS3 t) ∧ (∀ t, SS2 t → ¬ SS3 t) ∧ ¬ SS1 bS ∧ ¬ SS2 bS ∧ ¬ SS3 bS ∧ Below w4.heap.size w4 V)
  case first =>
    have cbS0 : w4.cell? ⟨w.heap.size, 0, none⟩ = some (.int .i64 PS.f0) := kS.at rfl
    have cbS1 : w4.cell? ⟨w.heap.size, 1, none⟩ = some (.slice aS1 PS.f1.length cS1) := kS.at rfl
    have cbS2 : w4.cell? ⟨w.heap.size, 2, none⟩ = some (.slice aS2 PS.f2.length cS2) := kS.at rfl
    have cbS3 : w4.cell? ⟨w.heap.size, 3, none⟩ = some (.slice aS3 PS.f3.length cS3) := kS.at rfl
    go_wp2_with fail
    go_at_call 27
    refine Calls.mono (gto_State (lo := 0) (hi := w.heap.size) PS fS1 fS2 fS3 hB4.size (by omega) (by omega) (by omega)) ?_
    rintro e u1 ⟨x1, y1, x2, y2, x3, y3, m1, m2, rfl, ho1, ho2, ho3, oo0, oo1, oo2, hb⟩
    have hz := hb.size
    go_wp2_with fail
    go_meet
    case rel => exact ⟨_, _, _, _, Span (w4.heap.size) (m1), _, _, Span (m1) (m2), _, _, Span (m2) (u1.heap.size), rfl, rfl, Blk.new _ [Value.int .i64 PS.f0, .slice x1 PS.f1.length y1, .slice x2 PS.f2.length y2, .slice x3 PS.f3.length y3] u1, (by omega), (by rw [gsize_alloc]; omega), (by omega), (Owns.below ho1 ((Below.refl _ _).alloc (Nat.le_refl _) _)), (Owns.below ho2 ((Below.refl _ _).alloc (Nat.le_refl _) _)), (Owns.below ho3 ((Below.refl _ _).alloc (Nat.le_refl _) _)), (fun t h => ⟨by have := h.1; omega, by have := h.2; rw [gsize_alloc]; omega⟩), (fun t h => ⟨by have := h.1; omega, by have := h.2; rw [gsize_alloc]; omega⟩), (fun t h => ⟨by have := h.1; omega, by have := h.2; rw [gsize_alloc]; omega⟩), (fun t h h' => by have := h.2; have := h'.1; omega), (fun t h h' => by have := h.2; have := h'.1; omega), (fun t h h' => by have := h.2; have := h'.1; omega), (fun h => by have := h.2; omega), (fun h => by have := h.2; omega), (fun h => by have := h.2; omega), (hb.alloc hb.size _)⟩
  case rest =>
  obtain ⟨w5, bxS, xxS1, yxS1, SxS1, xxS2, yxS2, SxS2, xxS3, yxS3, SxS3, rfl, rfl, BxS, lbxS, ubxS, mbxS, rxS1, rxS2, rxS3, urxS1, urxS2, urxS3, udxS_0_1, udxS_0_2, udxS_1_2, nbxS1_S, nbxS2_S, nbxS3_S, hb5⟩ := hcut
  have hs5 : w4.heap.size ≤ w5.heap.size := hb5.size
  have fL := fL.below hb5
  have fS1 := fS1.below hb5
  have fS2 := fS2.below hb5
  have fS3 := fS3.below hb5
  have kS := kS.below hb5
  have rWR1 := Owns.below rWR1 hb5
  have rWR2 := Owns.below rWR2 hb5
  have rWR3 := Owns.below rWR3 hb5
  have gxL := Owns.below gxL hb5
  have BWR := BWR.below hb5
  have hB5 := hB4.trans (hb5.mono hB4.size)
  clear hb5
  go_upto_region 11 with fail
  go_cut [11] (fun s0 wx => ∃ (V : World) (bR : Nat) (xR1 : Option Addr) (yR1 : Nat) (SR1 : Nat → Prop) (xR2 : Option Addr) (yR2 : Nat) (SR2 : Nat → Prop) (xR3 : Option Addr) (yR3 : Nat) (SR3 : Nat → Prop), V = wx ∧ s0 = .pointer (some ⟨bR, 0, none⟩) ∧ Blk 27 bR [Value.int .i64 R.f0, .slice xR1 R.f1.length yR1, .slice xR2 R.f2.length yR2, .slice xR3 R.f3.length yR3] V ∧ (w.heap.size + 1 ≤ bR) ∧ bR < V.heap.size ∧ (w5.heap.size ≤ bR) ∧ Owns V (ints R.f1) (.slice xR1 R.f1.length yR1) SR1 ∧ Owns V (ints R.f2) (.slice xR2 R.f2.length yR2) SR2 ∧ Owns V (ints R.f3) (.slice xR3 R.f3.length yR3) SR3 ∧ (∀ t, SR1 t → w5.heap.size ≤ t ∧ t < V.heap.size) ∧ (∀ t, SR2 t → w5.heap.size ≤ t ∧ t < V.heap.size) ∧ (∀ t, SR3 t → w5.heap.size ≤ t ∧ t < V.heap.size) ∧ Far xR1 R.f1.length xR2 R.f2.length ∧ Far xR1 R.f1.length xR3 R.f3.length ∧ Far xR2 R.f2.length xR3 R.f3.length ∧ ¬ SR1 bR ∧ ¬ SR2 bR ∧ ¬ SR3 bR ∧ Below w5.heap.size w5 V)
  case first =>
    have hq0 : w.heap.size ≤ w5.heap.size := hB5.size
    have hW0 : Below w5.heap.size w5 w5 := Below.refl _ _
    have ee0 : Below w5.heap.size w5 w5 := Below.refl _ _
    have cxS0 : w5.cell? ⟨bxS, 0, none⟩ = some (.int .i64 PS.f0) := BxS.at rfl
    have cxS1 : w5.cell? ⟨bxS, 1, none⟩ = some (.slice xxS1 PS.f1.length yxS1) := BxS.at rfl
    have cxS2 : w5.cell? ⟨bxS, 2, none⟩ = some (.slice xxS2 PS.f2.length yxS2) := BxS.at rfl
    have cxS3 : w5.cell? ⟨bxS, 3, none⟩ = some (.slice xxS3 PS.f3.length yxS3) := BxS.at rfl
    go_wp2_with fail
    go_at_call 12
    refine Calls.mono (hI _ _ _ _ _ _ _ _ _ _ _ _ _ _ _ _ _ (Lies.below (w := w5) (Owns.lies gxL (hi := w5.heap.size) (lo := 0) (fun t h => ⟨Nat.zero_le _, by have := ugxL t h; omega⟩)) ee0) (Nat.le_trans (by omega) (Below.size (B := w5.heap.size) (w := w5) ee0)) (Lies.below (w := w5) (Owns.lies rxS1 (hi := w5.heap.size) (lo := 0) (fun t h => ⟨Nat.zero_le _, by have := urxS1 t h; omega⟩)) ee0) (Nat.le_trans (by omega) (Below.size (B := w5.heap.size) (w := w5) ee0)) (Lies.below (w := w5) (Owns.lies rxS2 (hi := w5.heap.size) (lo := 0) (fun t h => ⟨Nat.zero_le _, by have := urxS2 t h; omega⟩)) ee0) (Nat.le_trans (by omega) (Below.size (B := w5.heap.size) (w := w5) ee0)) (Lies.below (w := w5) (Owns.lies rxS3 (hi := w5.heap.size) (lo := 0) (fun t h => ⟨Nat.zero_le _, by have := urxS3 t h; omega⟩)) ee0) (Nat.le_trans (by omega) (Below.size (B := w5.heap.size) (w := w5) ee0))) ?_
    rintro e u1 ⟨xR1, yR1, SR1, xR2, yR2, SR2, xR3, yR3, SR3, rfl, roR1, roR2, roR3, suR1, suR2, suR3, diR1_R2, diR1_R3, diR2_R3, hb⟩
    have hv1 : Below w5.heap.size w5 u1 := Below.trans (show Below w5.heap.size w5 _ from ee0) (hb.mono (Below.size (B := w5.heap.size) (w := w5) ee0))
    have fL := fL.below hv1
    have fS1 := fS1.below hv1
    have fS2 := fS2.below hv1
    have fS3 := fS3.below hv1
    have kS := kS.below hv1
    have BxS := BxS.below hv1
    have gxL := Owns.below gxL hv1
    have rxS1 := Owns.below rxS1 hv1
    have rxS2 := Owns.below rxS2 hv1
    have rxS3 := Owns.below rxS3 hv1
    have szR1 := hb.size
    have szR2 := hb.size
    have szR3 := hb.size
    have hq1 := Nat.le_trans hq0 hv1.size
    have hz1 := hv1.size
    have ee1 : Below u1.heap.size u1 u1 := Below.refl _ _
    have hW1 := hW0.trans (hv1.mono hW0.size)
    have s3 : u1.cell? ⟨bxS, 0, none⟩ = some (.int .i64 PS.f0) ∧ u1.cell? ⟨bxS, 1, none⟩ = some (.slice xxS1 PS.f1.length yxS1) ∧ u1.cell? ⟨bxS, 2, none⟩ = some (.slice xxS2 PS.f2.length yxS2) ∧ u1.cell? ⟨bxS, 3, none⟩ = some (.slice xxS3 PS.f3.length yxS3) := ⟨(BxS).at rfl, (BxS).at rfl, (BxS).at rfl, (BxS).at rfl⟩
    clear hb
    have cxS0 : u1.cell? ⟨bxS, 0, none⟩ = some (.int .i64 PS.f0) := BxS.at rfl
    have cxS1 : u1.cell? ⟨bxS, 1, none⟩ = some (.slice xxS1 PS.f1.length yxS1) := BxS.at rfl
    have cxS2 : u1.cell? ⟨bxS, 2, none⟩ = some (.slice xxS2 PS.f2.length yxS2) := BxS.at rfl
    have cxS3 : u1.cell? ⟨bxS, 3, none⟩ = some (.slice xxS3 PS.f3.length yxS3) := BxS.at rfl
    go_wp2_with fail
    go_meet
    case rel => exact ⟨_, _, _, _, SR1, _, _, SR2, _, _, SR3, rfl, rfl, Blk.new _ [Value.int .i64 R.f0, .slice xR1 R.f1.length yR1, .slice xR2 R.f2.length yR2, .slice xR3 R.f3.length yR3] u1, (by omega), (by rw [gsize_alloc]; omega), (by omega), (Owns.below roR1 ((Below.refl _ _).alloc (Nat.le_refl _) _)), (Owns.below roR2 ((Below.refl _ _).alloc (Nat.le_refl _) _)), (Owns.below roR3 ((Below.refl _ _).alloc (Nat.le_refl _) _)), (fun t hS => by have q := suR1 t hS; (try simp only [gsize_alloc] at q); (try simp only [gsize_drew] at q); (try simp only [gsize_alloc]); (try simp only [gsize_set]); omega), (fun t hS => by have q := suR2 t hS; (try simp only [gsize_alloc] at q); (try simp only [gsize_drew] at q); (try simp only [gsize_alloc]); (try simp only [gsize_set]); omega), (fun t hS => by have q := suR3 t hS; (try simp only [gsize_alloc] at q); (try simp only [gsize_drew] at q); (try simp only [gsize_alloc]); (try simp only [gsize_set]); omega), diR1_R2, diR1_R3, diR2_R3, (fun hS => by have q := suR1 _ hS; (try simp only [gsize_alloc] at q); (try simp only [gsize_drew] at q); omega), (fun hS => by have q := suR2 _ hS; (try simp only [gsize_alloc] at q); (try simp only [gsize_drew] at q); omega), (fun hS => by have q := suR3 _ hS; (try simp only [gsize_alloc] at q); (try simp only [gsize_drew] at q); omega), (Below.alloc hW1 hW1.size _)⟩
  case rest =>
  obtain ⟨w6, bGR, xGR1, yGR1, SGR1, xGR2, yGR2, SGR2, xGR3, yGR3, SGR3, rfl, rfl, BGR, lbGR, ubGR, mbGR, rGR1, rGR2, rGR3, urGR1, urGR2, urGR3, udGR1_R2, udGR1_R3, udGR2_R3, nbGR1_R, nbGR2_R, nbGR3_R, hb6⟩ := hcut
  have hs6 : w5.heap.size ≤ w6.heap.size := hb6.size
  have fL := fL.below hb6
  have fS1 := fS1.below hb6
  have fS2 := fS2.below hb6
  have fS3 := fS3.below hb6
  have kS := kS.below hb6
  have rWR1 := Owns.below rWR1 hb6
  have rWR2 := Owns.below rWR2 hb6
  have rWR3 := Owns.below rWR3 hb6
  have gxL := Owns.below gxL hb6
  have rxS1 := Owns.below rxS1 hb6
  have rxS2 := Owns.below rxS2 hb6
  have rxS3 := Owns.below rxS3 hb6
  have BWR := BWR.below hb6
  have BxS := BxS.below hb6
  have hB6 := hB5.trans (hb6.mono hB5.size)
  clear hb6
  have rbGR0 : w6.cell? ⟨bGR, 0, none⟩ = some (.int .i64 R.f0) := BGR.at rfl
  have rbGR1 : w6.cell? ⟨bGR, 1, none⟩ = some (.slice xGR1 R.f1.length yGR1) := BGR.at rfl
  have rbGR2 : w6.cell? ⟨bGR, 2, none⟩ = some (.slice xGR2 R.f2.length yGR2) := BGR.at rfl
  have rbGR3 : w6.cell? ⟨bGR, 3, none⟩ = some (.slice xGR3 R.f3.length yGR3) := BGR.at rfl
  have rbWR0 : w6.cell? ⟨bWR, 0, none⟩ = some (.int .i64 R.f0) := BWR.at rfl
  have rbWR1 : w6.cell? ⟨bWR, 1, none⟩ = some (.slice xWR1 R.f1.length yWR1) := BWR.at rfl
  have rbWR2 : w6.cell? ⟨bWR, 2, none⟩ = some (.slice xWR2 R.f2.length yWR2) := BWR.at rfl
  have rbWR3 : w6.cell? ⟨bWR, 3, none⟩ = some (.slice xWR3 R.f3.length yWR3) := BWR.at rfl
  go_wp2_with fail
  go_at_call 22
  refine Calls.mono (geq_State R (((Owns.lies rGR1 urGR1)).more (lo' := 0) (hi' := w6.heap.size) (Nat.zero_le _) (by omega)) (((Owns.lies rGR2 urGR2)).more (lo' := 0) (hi' := w6.heap.size) (Nat.zero_le _) (by omega)) (((Owns.lies rGR3 urGR3)).more (lo' := 0) (hi' := w6.heap.size) (Nat.zero_le _) (by omega)) (((Owns.lies rWR1 urWR1)).more (lo' := 0) (hi' := w6.heap.size) (Nat.zero_le _) (by omega)) (((Owns.lies rWR2 urWR2)).more (lo' := 0) (hi' := w6.heap.size) (Nat.zero_le _) (by omega)) (((Owns.lies rWR3 urWR3)).more (lo' := 0) (hi' := w6.heap.size) (Nat.zero_le _) (by omega)) (by omega) (by omega)) ?_
  rintro e w7 ⟨rfl, hb7⟩
  have hs7 : w6.heap.size ≤ w7.heap.size := hb7.size
  have fL := fL.below hb7
  have fS1 := fS1.below hb7
  have fS2 := fS2.below hb7
  have fS3 := fS3.below hb7
  have kS := kS.below hb7
  have rWR1 := Owns.below rWR1 hb7
  have rWR2 := Owns.below rWR2 hb7
  have rWR3 := Owns.below rWR3 hb7
  have gxL := Owns.below gxL hb7
  have rxS1 := Owns.below rxS1 hb7
  have rxS2 := Owns.below rxS2 hb7
  have rxS3 := Owns.below rxS3 hb7
  have rGR1 := Owns.below rGR1 hb7
  have rGR2 := Owns.below rGR2 hb7
  have rGR3 := Owns.below rGR3 hb7
  have BWR := BWR.below hb7
  have BxS := BxS.below hb7
  have BGR := BGR.below hb7
  have hB7 := hB6.trans (hb7.mono hB6.size)
  clear hb7
  go_wp2_with fail
  go_at_call 30
  refine Calls.mono (gto_OpS (lo := 0) (hi := w.heap.size) fL hB7.size (by omega)) ?_
  rintro e w8 ⟨v8, rfl, ho8, hb8⟩
  obtain ⟨xyL, yyL, rfl, _⟩ : ∃ a c, v8 = .slice a lL.length c ∧ True := by obtain ⟨a, c, q, _⟩ := ho8; exact ⟨a, c, q, trivial⟩
  have hs8 : w7.heap.size ≤ w8.heap.size := hb8.size
  have fL := fL.below hb8
  have fS1 := fS1.below hb8
  have fS2 := fS2.below hb8
  have fS3 := fS3.below hb8
  have kS := kS.below hb8
  have rWR1 := Owns.below rWR1 hb8
  have rWR2 := Owns.below rWR2 hb8
  have rWR3 := Owns.below rWR3 hb8
  have gxL := Owns.below gxL hb8
  have rxS1 := Owns.below rxS1 hb8
  have rxS2 := Owns.below rxS2 hb8
  have rxS3 := Owns.below rxS3 hb8
  have rGR1 := Owns.below rGR1 hb8
  have rGR2 := Owns.below rGR2 hb8
  have rGR3 := Owns.below rGR3 hb8
  have BWR := BWR.below hb8
  have BxS := BxS.below hb8
  have BGR := BGR.below hb8
  have hB8 := hB7.trans (hb8.mono hB7.size)
  clear hb8
  have gyL := ho8
  clear ho8
  have ugyL : ∀ t, Span w7.heap.size w8.heap.size t → w7.heap.size ≤ t ∧ t < w8.heap.size := fun t h => h
  go_wp2_with fail
  go_at_call 32
  refine Calls.mono (geq_OpS (Owns.lies gxL ugxL) (Owns.lies gyL ugyL) (by omega) (by omega)) ?_
  rintro e w9 ⟨rfl, hb9⟩
  have hs9 : w8.heap.size ≤ w9.heap.size := hb9.size
  have fL := fL.below hb9
  have fS1 := fS1.below hb9
  have fS2 := fS2.below hb9
  have fS3 := fS3.below hb9
  have kS := kS.below hb9
  have rWR1 := Owns.below rWR1 hb9
  have rWR2 := Owns.below rWR2 hb9
  have rWR3 := Owns.below rWR3 hb9
  have gxL := Owns.below gxL hb9
  have rxS1 := Owns.below rxS1 hb9
  have rxS2 := Owns.below rxS2 hb9
  have rxS3 := Owns.below rxS3 hb9
  have rGR1 := Owns.below rGR1 hb9
  have rGR2 := Owns.below rGR2 hb9
  have rGR3 := Owns.below rGR3 hb9
  have gyL := Owns.below gyL hb9
  have BWR := BWR.below hb9
  have BxS := BxS.below hb9
  have BGR := BGR.below hb9
  have hB9 := hB8.trans (hb9.mono hB8.size)
  clear hb9
  clear gyL ugyL
  go_upto_region 16 with fail
  go_cut [53] (fun s0 wx => ∃ (V : World), V = wx ∧ s0 = .bool false ∧ Below w9.heap.size w9 V)
  case first =>
    have hq0 : w.heap.size ≤ w9.heap.size := hB9.size
    have hW0 : Below w9.heap.size w9 w9 := Below.refl _ _
    have ee0 : Below w9.heap.size w9 w9 := Below.refl _ _
    have ed0 : Below w9.heap.size w9 w9.drew := (Below.refl _ _).drew
    have s3 : w9.drew.cell? ⟨w.heap.size, 0, none⟩ = some (.int .i64 PS.f0) ∧ w9.drew.cell? ⟨w.heap.size, 1, none⟩ = some (.slice aS1 PS.f1.length cS1) ∧ w9.drew.cell? ⟨w.heap.size, 2, none⟩ = some (.slice aS2 PS.f2.length cS2) ∧ w9.drew.cell? ⟨w.heap.size, 3, none⟩ = some (.slice aS3 PS.f3.length cS3) ∧ w9.drew.cell? ⟨bxS, 0, none⟩ = some (.int .i64 PS.f0) ∧ w9.drew.cell? ⟨bxS, 1, none⟩ = some (.slice xxS1 PS.f1.length yxS1) ∧ w9.drew.cell? ⟨bxS, 2, none⟩ = some (.slice xxS2 PS.f2.length yxS2) ∧ w9.drew.cell? ⟨bxS, 3, none⟩ = some (.slice xxS3 PS.f3.length yxS3) := ⟨(Blk.drew kS).at rfl, (Blk.drew kS).at rfl, (Blk.drew kS).at rfl, (Blk.drew kS).at rfl, (Blk.drew BxS).at rfl, (Blk.drew BxS).at rfl, (Blk.drew BxS).at rfl, (Blk.drew BxS).at rfl⟩
    go_wp2_with fail
    go_region_held3 (fun w' => w'.cell? ⟨w.heap.size, 0, none⟩ = some (.int .i64 PS.f0) ∧ w'.cell? ⟨w.heap.size, 1, none⟩ = some (.slice aS1 PS.f1.length cS1) ∧ w'.cell? ⟨w.heap.size, 2, none⟩ = some (.slice aS2 PS.f2.length cS2) ∧ w'.cell? ⟨w.heap.size, 3, none⟩ = some (.slice aS3 PS.f3.length cS3) ∧ w'.cell? ⟨bxS, 0, none⟩ = some (.int .i64 PS.f0) ∧ w'.cell? ⟨bxS, 1, none⟩ = some (.slice xxS1 PS.f1.length yxS1) ∧ w'.cell? ⟨bxS, 2, none⟩ = some (.slice xxS2 PS.f2.length yxS2) ∧ w'.cell? ⟨bxS, 3, none⟩ = some (.slice xxS3 PS.f3.length yxS3))
      (first | (with_reducible exact s3) | go_keep)
      (first
      | (go_at_call 27; refine Calls.mono (gto_State (lo := 0) (hi := w.heap.size) PS (fS1.below (w := w9) (by first | (with_reducible exact ee0) | (with_reducible exact ed0))) (fS2.below (w := w9) (by first | (with_reducible exact ee0) | (with_reducible exact ed0))) (fS3.below (w := w9) (by first | (with_reducible exact ee0) | (with_reducible exact ed0))) (Nat.le_trans hq0 (Below.size (B := w9.heap.size) (w := w9) (by first | (with_reducible exact ee0) | (with_reducible exact ed0)))) (by omega) (by omega) (by omega)) ?_; rintro e u1 ⟨XS1, YS1, XS2, YS2, XS3, YS3, mS1, mS2, rfl, ho1, ho2, ho3, onS0, onS1, onS2, hb⟩; have hv1 : Below w9.heap.size w9 u1 := Below.trans (show Below w9.heap.size w9 _ from (by first | (with_reducible exact ee0) | (with_reducible exact ed0))) (hb.mono (Below.size (B := w9.heap.size) (w := w9) (by first | (with_reducible exact ee0) | (with_reducible exact ed0)))); have fL := fL.below hv1; have fS1 := fS1.below hv1; have fS2 := fS2.below hv1; have fS3 := fS3.below hv1; have kS := kS.below hv1; have BxS := BxS.below hv1; have rxS1 := Owns.below rxS1 hv1; have rxS2 := Owns.below rxS2 hv1; have rxS3 := Owns.below rxS3 hv1; have qS1 := Owns.lies (lo := 0) (hi := u1.heap.size) ho1 (fun t h => ⟨Nat.zero_le _, by have := h.2; omega⟩); have qS2 := Owns.lies (lo := 0) (hi := u1.heap.size) ho2 (fun t h => ⟨Nat.zero_le _, by have := h.2; omega⟩); have qS3 := Owns.lies (lo := 0) (hi := u1.heap.size) ho3 (fun t h => ⟨Nat.zero_le _, by have := h.2; omega⟩); clear ho1 ho2 ho3 onS0 onS1 onS2; have hq1 := Nat.le_trans hq0 hv1.size; have hz1 := hv1.size; have ee1 : Below u1.heap.size u1 u1 := Below.refl _ _; have ed1 := ee1; have hW1 := hW0.trans (hv1.mono hW0.size); have s3 : u1.cell? ⟨w.heap.size, 0, none⟩ = some (.int .i64 PS.f0) ∧ u1.cell? ⟨w.heap.size, 1, none⟩ = some (.slice aS1 PS.f1.length cS1) ∧ u1.cell? ⟨w.heap.size, 2, none⟩ = some (.slice aS2 PS.f2.length cS2) ∧ u1.cell? ⟨w.heap.size, 3, none⟩ = some (.slice aS3 PS.f3.length cS3) ∧ u1.cell? ⟨bxS, 0, none⟩ = some (.int .i64 PS.f0) ∧ u1.cell? ⟨bxS, 1, none⟩ = some (.slice xxS1 PS.f1.length yxS1) ∧ u1.cell? ⟨bxS, 2, none⟩ = some (.slice xxS2 PS.f2.length yxS2) ∧ u1.cell? ⟨bxS, 3, none⟩ = some (.slice xxS3 PS.f3.length yxS3) := ⟨(kS).at rfl, (kS).at rfl, (kS).at rfl, (kS).at rfl, (BxS).at rfl, (BxS).at rfl, (BxS).at rfl, (BxS).at rfl⟩; clear hb)
      | (go_at_call 22; refine Calls.mono (geq_State PS (Lies.below (w := u1) (Owns.lies rxS1 (lo := 0) (hi := u1.heap.size) (fun t h => ⟨Nat.zero_le _, by have := urxS1 t h; omega⟩)) (by first | (with_reducible exact ee1) | (with_reducible exact ed1))) (Lies.below (w := u1) (Owns.lies rxS2 (lo := 0) (hi := u1.heap.size) (fun t h => ⟨Nat.zero_le _, by have := urxS2 t h; omega⟩)) (by first | (with_reducible exact ee1) | (with_reducible exact ed1))) (Lies.below (w := u1) (Owns.lies rxS3 (lo := 0) (hi := u1.heap.size) (fun t h => ⟨Nat.zero_le _, by have := urxS3 t h; omega⟩)) (by first | (with_reducible exact ee1) | (with_reducible exact ed1))) (Lies.below (w := u1) qS1 (by first | (with_reducible exact ee1) | (with_reducible exact ed1))) (Lies.below (w := u1) qS2 (by first | (with_reducible exact ee1) | (with_reducible exact ed1))) (Lies.below (w := u1) qS3 (by first | (with_reducible exact ee1) | (with_reducible exact ed1))) (Below.size (B := u1.heap.size) (w := u1) (by first | (with_reducible exact ee1) | (with_reducible exact ed1))) (Below.size (B := u1.heap.size) (w := u1) (by first | (with_reducible exact ee1) | (with_reducible exact ed1)))) ?_; rintro e u2 ⟨rfl, hb⟩; have hv2 : Below u1.heap.size u1 u2 := Below.trans (show Below u1.heap.size u1 _ from (by first | (with_reducible exact ee1) | (with_reducible exact ed1))) (hb.mono (Below.size (B := u1.heap.size) (w := u1) (by first | (with_reducible exact ee1) | (with_reducible exact ed1)))); have fL := fL.below hv2; have fS1 := fS1.below hv2; have fS2 := fS2.below hv2; have fS3 := fS3.below hv2; have kS := kS.below hv2; have BxS := BxS.below hv2; have rxS1 := Owns.below rxS1 hv2; have rxS2 := Owns.below rxS2 hv2; have rxS3 := Owns.below rxS3 hv2; have hq2 := Nat.le_trans hq1 hv2.size; have hz2 := hv2.size; have ee2 : Below u2.heap.size u2 u2 := Below.refl _ _; have ed2 := ee2; have hW2 := hW1.trans (hv2.mono hW1.size); have s3 : u2.cell? ⟨w.heap.size, 0, none⟩ = some (.int .i64 PS.f0) ∧ u2.cell? ⟨w.heap.size, 1, none⟩ = some (.slice aS1 PS.f1.length cS1) ∧ u2.cell? ⟨w.heap.size, 2, none⟩ = some (.slice aS2 PS.f2.length cS2) ∧ u2.cell? ⟨w.heap.size, 3, none⟩ = some (.slice aS3 PS.f3.length cS3) ∧ u2.cell? ⟨bxS, 0, none⟩ = some (.int .i64 PS.f0) ∧ u2.cell? ⟨bxS, 1, none⟩ = some (.slice xxS1 PS.f1.length yxS1) ∧ u2.cell? ⟨bxS, 2, none⟩ = some (.slice xxS2 PS.f2.length yxS2) ∧ u2.cell? ⟨bxS, 3, none⟩ = some (.slice xxS3 PS.f3.length yxS3) := ⟨(kS).at rfl, (kS).at rfl, (kS).at rfl, (kS).at rfl, (BxS).at rfl, (BxS).at rfl, (BxS).at rfl, (BxS).at rfl⟩; clear hb)
      )
    all_goals
      go_wp2_with fail
      go_meet
      case rel => exact ⟨_, rfl, rfl, hW2⟩
  case rest =>
  obtain ⟨w10, rfl, rfl, hb10⟩ := hcut
  have hs10 : w9.heap.size ≤ w10.heap.size := hb10.size
  have fL := fL.below hb10
  have fS1 := fS1.below hb10
  have fS2 := fS2.below hb10
  have fS3 := fS3.below hb10
  have kS := kS.below hb10
  have rWR1 := Owns.below rWR1 hb10
  have rWR2 := Owns.below rWR2 hb10
  have rWR3 := Owns.below rWR3 hb10
  have gxL := Owns.below gxL hb10
  have rxS1 := Owns.below rxS1 hb10
  have rxS2 := Owns.below rxS2 hb10
  have rxS3 := Owns.below rxS3 hb10
  have rGR1 := Owns.below rGR1 hb10
  have rGR2 := Owns.below rGR2 hb10
  have rGR3 := Owns.below rGR3 hb10
  have BWR := BWR.below hb10
  have BxS := BxS.below hb10
  have BGR := BGR.below hb10
  have hB10 := hB9.trans (hb10.mono hB9.size)
  clear hb10
  obtain ⟨K1, hK1⟩ : ∃ y : Nat, 1 + ct (dOp lL) = y := ⟨_, rfl⟩
  have zK1 : K1 ≤ 300000000 := by have := ctb_OpS lL; omega
  have hM := gmark_OpS 1 gxL (by omega)
  rw [hK1] at hM
  go_wp2_with fail
  go_at_call 34
  refine Calls.mono (hM) ?_
  rintro e w11 ⟨rfl, ho11, ht11⟩
  clear hM ho11 hK1 gxL
  have hs11 := ht11.size
  have fL := fL.turn ht11 (fun t hS h1 h2 => by have q := ugxL t hS; omega)
  have fS1 := fS1.turn ht11 (fun t hS h1 h2 => by have q := ugxL t hS; omega)
  have fS2 := fS2.turn ht11 (fun t hS h1 h2 => by have q := ugxL t hS; omega)
  have fS3 := fS3.turn ht11 (fun t hS h1 h2 => by have q := ugxL t hS; omega)
  have kS := (ht11.block _ kS.lt (fun hS => (by have q := ugxL _ hS; omega))).trans kS
  replace kS : Blk 45 (w.heap.size) [Value.int .i64 PS.f0, .slice aS1 PS.f1.length cS1, .slice aS2 PS.f2.length cS2, .slice aS3 PS.f3.length cS3] w11 := kS
  have BWR := (ht11.block _ BWR.lt (fun hS => by (have q := ugxL _ hS; omega))).trans BWR
  replace BWR : Blk 27 bWR [Value.int .i64 R.f0, .slice xWR1 R.f1.length yWR1, .slice xWR2 R.f2.length yWR2, .slice xWR3 R.f3.length yWR3] w11 := BWR
  have BxS := (ht11.block _ BxS.lt (fun hS => by (have q := ugxL _ hS; omega))).trans BxS
  replace BxS : Blk 27 bxS [Value.int .i64 PS.f0, .slice xxS1 PS.f1.length yxS1, .slice xxS2 PS.f2.length yxS2, .slice xxS3 PS.f3.length yxS3] w11 := BxS
  have BGR := (ht11.block _ BGR.lt (fun hS => by (have q := ugxL _ hS; omega))).trans BGR
  replace BGR : Blk 27 bGR [Value.int .i64 R.f0, .slice xGR1 R.f1.length yGR1, .slice xGR2 R.f2.length yGR2, .slice xGR3 R.f3.length yGR3] w11 := BGR
  have rWR1 := Owns.turn rWR1 ht11 (fun t hX hS => (by have q := ugxL t hS; have p := urWR1 t hX; omega))
  have rWR2 := Owns.turn rWR2 ht11 (fun t hX hS => (by have q := ugxL t hS; have p := urWR2 t hX; omega))
  have rWR3 := Owns.turn rWR3 ht11 (fun t hX hS => (by have q := ugxL t hS; have p := urWR3 t hX; omega))
  have rxS1 := Owns.turn rxS1 ht11 (fun t hX hS => (by have q := ugxL t hS; have p := urxS1 t hX; omega))
  have rxS2 := Owns.turn rxS2 ht11 (fun t hX hS => (by have q := ugxL t hS; have p := urxS2 t hX; omega))
  have rxS3 := Owns.turn rxS3 ht11 (fun t hX hS => (by have q := ugxL t hS; have p := urxS3 t hX; omega))
  have rGR1 := Owns.turn rGR1 ht11 (fun t hX hS => (by have q := ugxL t hS; have p := urGR1 t hX; omega))
  have rGR2 := Owns.turn rGR2 ht11 (fun t hX hS => (by have q := ugxL t hS; have p := urGR2 t hX; omega))
  have rGR3 := Owns.turn rGR3 ht11 (fun t hX hS => (by have q := ugxL t hS; have p := urGR3 t hX; omega))
  have hB11 := hB10.trans (ht11.below (fun t hS => by have q := ugxL t hS; omega) hB10.size)
  clear ht11
  obtain ⟨K2, hK2⟩ : ∃ y : Nat, K1 + ct (ints PS.f1) = y := ⟨_, rfl⟩
  have zK2 : K2 ≤ 600000000 := by have := ctb_ints PS.f1; omega
  obtain ⟨K3, hK3⟩ : ∃ y : Nat, K2 + ct (ints PS.f2) = y := ⟨_, rfl⟩
  have zK3 : K3 ≤ 900000000 := by have := ctb_ints PS.f2; omega
  obtain ⟨K4, hK4⟩ : ∃ y : Nat, K3 + ct (ints PS.f3) = y := ⟨_, rfl⟩
  have zK4 : K4 ≤ 1200000000 := by have := ctb_ints PS.f3; omega
  have hM := gmark_State PS K1 rxS1 rxS2 rxS3 udxS_0_1 udxS_0_2 udxS_1_2 (fun hS => by have q := urxS1 _ hS; omega) (fun hS => by have q := urxS2 _ hS; omega) (fun hS => by have q := urxS3 _ hS; omega) (by omega)
  rw [hK2, hK3, hK4] at hM
  have rbxS0 : w11.cell? ⟨bxS, 0, none⟩ = some (.int .i64 PS.f0) := BxS.at rfl
  have rbxS1 : w11.cell? ⟨bxS, 1, none⟩ = some (.slice xxS1 PS.f1.length yxS1) := BxS.at rfl
  have rbxS2 : w11.cell? ⟨bxS, 2, none⟩ = some (.slice xxS2 PS.f2.length yxS2) := BxS.at rfl
  have rbxS3 : w11.cell? ⟨bxS, 3, none⟩ = some (.slice xxS3 PS.f3.length yxS3) := BxS.at rfl
  go_wp2_with fail
  go_at_call 23
  refine Calls.mono (hM) ?_
  rintro e w12 ⟨rfl, nrxS1, nrxS2, nrxS3, ht12⟩
  clear hM nrxS1 nrxS2 nrxS3 hK2 hK3 hK4 rxS1 rxS2 rxS3
  clear rbxS0 rbxS1 rbxS2 rbxS3
  have hs12 := ht12.size
  have fL := fL.turn ht12 (fun t hS h1 h2 => by rcases hS with hS | hS | hS <;> first | (have q := urxS1 t hS; omega) | (have q := urxS2 t hS; omega) | (have q := urxS3 t hS; omega))
  have fS1 := fS1.turn ht12 (fun t hS h1 h2 => by rcases hS with hS | hS | hS <;> first | (have q := urxS1 t hS; omega) | (have q := urxS2 t hS; omega) | (have q := urxS3 t hS; omega))
  have fS2 := fS2.turn ht12 (fun t hS h1 h2 => by rcases hS with hS | hS | hS <;> first | (have q := urxS1 t hS; omega) | (have q := urxS2 t hS; omega) | (have q := urxS3 t hS; omega))
  have fS3 := fS3.turn ht12 (fun t hS h1 h2 => by rcases hS with hS | hS | hS <;> first | (have q := urxS1 t hS; omega) | (have q := urxS2 t hS; omega) | (have q := urxS3 t hS; omega))
  have kS := (ht12.block _ kS.lt (fun hS => by rcases hS with hS | hS | hS <;> first | (have q := urxS1 _ hS; omega) | (have q := urxS2 _ hS; omega) | (have q := urxS3 _ hS; omega))).trans kS
  replace kS : Blk 45 (w.heap.size) [Value.int .i64 PS.f0, .slice aS1 PS.f1.length cS1, .slice aS2 PS.f2.length cS2, .slice aS3 PS.f3.length cS3] w12 := kS
  have BWR := (ht12.block _ BWR.lt (fun hS => by rcases hS with hS | hS | hS <;> first | (have q := urxS1 _ hS; omega) | (have q := urxS2 _ hS; omega) | (have q := urxS3 _ hS; omega))).trans BWR
  replace BWR : Blk 27 bWR [Value.int .i64 R.f0, .slice xWR1 R.f1.length yWR1, .slice xWR2 R.f2.length yWR2, .slice xWR3 R.f3.length yWR3] w12 := BWR
  have BxS := (ht12.block _ BxS.lt (fun hS => by rcases hS with hS | hS | hS <;> first | (exact absurd hS nbxS1_S) | (exact absurd hS nbxS2_S) | (exact absurd hS nbxS3_S))).trans BxS
  replace BxS : Blk 27 bxS [Value.int .i64 PS.f0, .slice xxS1 PS.f1.length yxS1, .slice xxS2 PS.f2.length yxS2, .slice xxS3 PS.f3.length yxS3] w12 := BxS
  have BGR := (ht12.block _ BGR.lt (fun hS => by rcases hS with hS | hS | hS <;> first | (have q := urxS1 _ hS; omega) | (have q := urxS2 _ hS; omega) | (have q := urxS3 _ hS; omega))).trans BGR
  replace BGR : Blk 27 bGR [Value.int .i64 R.f0, .slice xGR1 R.f1.length yGR1, .slice xGR2 R.f2.length yGR2, .slice xGR3 R.f3.length yGR3] w12 := BGR
  have rWR1 := Owns.turn rWR1 ht12 (fun t hX hS => by rcases hS with hS | hS | hS <;> first | (exact (by have q := urxS1 t hS; have p := urWR1 t hX; omega)) | (exact (by have q := urxS2 t hS; have p := urWR1 t hX; omega)) | (exact (by have q := urxS3 t hS; have p := urWR1 t hX; omega)))
  have rWR2 := Owns.turn rWR2 ht12 (fun t hX hS => by rcases hS with hS | hS | hS <;> first | (exact (by have q := urxS1 t hS; have p := urWR2 t hX; omega)) | (exact (by have q := urxS2 t hS; have p := urWR2 t hX; omega)) | (exact (by have q := urxS3 t hS; have p := urWR2 t hX; omega)))
  have rWR3 := Owns.turn rWR3 ht12 (fun t hX hS => by rcases hS with hS | hS | hS <;> first | (exact (by have q := urxS1 t hS; have p := urWR3 t hX; omega)) | (exact (by have q := urxS2 t hS; have p := urWR3 t hX; omega)) | (exact (by have q := urxS3 t hS; have p := urWR3 t hX; omega)))
  have rGR1 := Owns.turn rGR1 ht12 (fun t hX hS => by rcases hS with hS | hS | hS <;> first | (exact (by have q := urxS1 t hS; have p := urGR1 t hX; omega)) | (exact (by have q := urxS2 t hS; have p := urGR1 t hX; omega)) | (exact (by have q := urxS3 t hS; have p := urGR1 t hX; omega)))
  have rGR2 := Owns.turn rGR2 ht12 (fun t hX hS => by rcases hS with hS | hS | hS <;> first | (exact (by have q := urxS1 t hS; have p := urGR2 t hX; omega)) | (exact (by have q := urxS2 t hS; have p := urGR2 t hX; omega)) | (exact (by have q := urxS3 t hS; have p := urGR2 t hX; omega)))
  have rGR3 := Owns.turn rGR3 ht12 (fun t hX hS => by rcases hS with hS | hS | hS <;> first | (exact (by have q := urxS1 t hS; have p := urGR3 t hX; omega)) | (exact (by have q := urxS2 t hS; have p := urGR3 t hX; omega)) | (exact (by have q := urxS3 t hS; have p := urGR3 t hX; omega)))
  have hB12 := hB11.trans (ht12.below (fun t hS => by rcases hS with hS | hS | hS <;> first | (have q := urxS1 t hS; omega) | (have q := urxS2 t hS; omega) | (have q := urxS3 t hS; omega)) hB11.size)
  clear ht12
  have dK : decide ((K4 : Int) < 0) = false := by first | (simp; done) | (simp; omega)
  have rbGR0 : w12.cell? ⟨bGR, 0, none⟩ = some (.int .i64 R.f0) := BGR.at rfl
  have rbGR1 : w12.cell? ⟨bGR, 1, none⟩ = some (.slice xGR1 R.f1.length yGR1) := BGR.at rfl
  have rbGR2 : w12.cell? ⟨bGR, 2, none⟩ = some (.slice xGR2 R.f2.length yGR2) := BGR.at rfl
  have rbGR3 : w12.cell? ⟨bGR, 3, none⟩ = some (.slice xGR3 R.f3.length yGR3) := BGR.at rfl
  have rbWR0 : w12.cell? ⟨bWR, 0, none⟩ = some (.int .i64 R.f0) := BWR.at rfl
  have rbWR1 : w12.cell? ⟨bWR, 1, none⟩ = some (.slice xWR1 R.f1.length yWR1) := BWR.at rfl
  have rbWR2 : w12.cell? ⟨bWR, 2, none⟩ = some (.slice xWR2 R.f2.length yWR2) := BWR.at rfl
  have rbWR3 : w12.cell? ⟨bWR, 3, none⟩ = some (.slice xWR3 R.f3.length yWR3) := BWR.at rfl
  go_wp2_with fail
  go_at_call 22
  refine Calls.mono (geq_State R (((Owns.lies rGR1 urGR1)).more (lo' := 0) (hi' := w12.heap.size) (Nat.zero_le _) (by omega)) (((Owns.lies rGR2 urGR2)).more (lo' := 0) (hi' := w12.heap.size) (Nat.zero_le _) (by omega)) (((Owns.lies rGR3 urGR3)).more (lo' := 0) (hi' := w12.heap.size) (Nat.zero_le _) (by omega)) (((Owns.lies rWR1 urWR1)).more (lo' := 0) (hi' := w12.heap.size) (Nat.zero_le _) (by omega)) (((Owns.lies rWR2 urWR2)).more (lo' := 0) (hi' := w12.heap.size) (Nat.zero_le _) (by omega)) (((Owns.lies rWR3 urWR3)).more (lo' := 0) (hi' := w12.heap.size) (Nat.zero_le _) (by omega)) (by omega) (by omega)) ?_
  rintro e w13 ⟨rfl, hb13⟩
  have hs13 : w12.heap.size ≤ w13.heap.size := hb13.size
  have fL := fL.below hb13
  have fS1 := fS1.below hb13
  have fS2 := fS2.below hb13
  have fS3 := fS3.below hb13
  have kS := kS.below hb13
  have rWR1 := Owns.below rWR1 hb13
  have rWR2 := Owns.below rWR2 hb13
  have rWR3 := Owns.below rWR3 hb13
  have rGR1 := Owns.below rGR1 hb13
  have rGR2 := Owns.below rGR2 hb13
  have rGR3 := Owns.below rGR3 hb13
  have BWR := BWR.below hb13
  have BxS := BxS.below hb13
  have BGR := BGR.below hb13
  have hB13 := hB12.trans (hb13.mono hB12.size)
  clear hb13
  obtain ⟨M1, hM1⟩ : ∃ y : Nat, 1 + ct (ints R.f1) = y := ⟨_, rfl⟩
  have zM1 : M1 ≤ 300000000 := by have := ctb_ints R.f1; omega
  obtain ⟨M2, hM2⟩ : ∃ y : Nat, M1 + ct (ints R.f2) = y := ⟨_, rfl⟩
  have zM2 : M2 ≤ 600000000 := by have := ctb_ints R.f2; omega
  obtain ⟨M3, hM3⟩ : ∃ y : Nat, M2 + ct (ints R.f3) = y := ⟨_, rfl⟩
  have zM3 : M3 ≤ 900000000 := by have := ctb_ints R.f3; omega
  have hM := gmark_StateF R 1 rGR1 rGR2 rGR3 udGR1_R2 udGR1_R3 udGR2_R3 (fun hS => by have q := urGR1 _ hS; omega) (fun hS => by have q := urGR2 _ hS; omega) (fun hS => by have q := urGR3 _ hS; omega) (by omega)
  rw [hM1, hM2, hM3] at hM
  have rbGR0 : w13.cell? ⟨bGR, 0, none⟩ = some (.int .i64 R.f0) := BGR.at rfl
  have rbGR1 : w13.cell? ⟨bGR, 1, none⟩ = some (.slice xGR1 R.f1.length yGR1) := BGR.at rfl
  have rbGR2 : w13.cell? ⟨bGR, 2, none⟩ = some (.slice xGR2 R.f2.length yGR2) := BGR.at rfl
  have rbGR3 : w13.cell? ⟨bGR, 3, none⟩ = some (.slice xGR3 R.f3.length yGR3) := BGR.at rfl
  go_wp2_with fail
  go_at_call 23
  refine Calls.mono (hM) ?_
  rintro e w14 ⟨rfl, nrGR1, nrGR2, nrGR3, ht14⟩
  clear hM
  have hs14 := ht14.size
  have fL := fL.turn ht14 (fun t hS h1 h2 => by rcases hS with hS | hS | hS <;> first | (have q := urGR1 t hS; omega) | (have q := urGR2 t hS; omega) | (have q := urGR3 t hS; omega))
  have fS1 := fS1.turn ht14 (fun t hS h1 h2 => by rcases hS with hS | hS | hS <;> first | (have q := urGR1 t hS; omega) | (have q := urGR2 t hS; omega) | (have q := urGR3 t hS; omega))
  have fS2 := fS2.turn ht14 (fun t hS h1 h2 => by rcases hS with hS | hS | hS <;> first | (have q := urGR1 t hS; omega) | (have q := urGR2 t hS; omega) | (have q := urGR3 t hS; omega))
  have fS3 := fS3.turn ht14 (fun t hS h1 h2 => by rcases hS with hS | hS | hS <;> first | (have q := urGR1 t hS; omega) | (have q := urGR2 t hS; omega) | (have q := urGR3 t hS; omega))
  have kS := (ht14.block _ kS.lt (fun hS => by rcases hS with hS | hS | hS <;> first | (have q := urGR1 _ hS; omega) | (have q := urGR2 _ hS; omega) | (have q := urGR3 _ hS; omega))).trans kS
  replace kS : Blk 45 (w.heap.size) [Value.int .i64 PS.f0, .slice aS1 PS.f1.length cS1, .slice aS2 PS.f2.length cS2, .slice aS3 PS.f3.length cS3] w14 := kS
  have BWR := (ht14.block _ BWR.lt (fun hS => by rcases hS with hS | hS | hS <;> first | (have q := urGR1 _ hS; omega) | (have q := urGR2 _ hS; omega) | (have q := urGR3 _ hS; omega))).trans BWR
  replace BWR : Blk 27 bWR [Value.int .i64 R.f0, .slice xWR1 R.f1.length yWR1, .slice xWR2 R.f2.length yWR2, .slice xWR3 R.f3.length yWR3] w14 := BWR
  have BxS := (ht14.block _ BxS.lt (fun hS => by rcases hS with hS | hS | hS <;> first | (have q := urGR1 _ hS; omega) | (have q := urGR2 _ hS; omega) | (have q := urGR3 _ hS; omega))).trans BxS
  replace BxS : Blk 27 bxS [Value.int .i64 PS.f0, .slice xxS1 PS.f1.length yxS1, .slice xxS2 PS.f2.length yxS2, .slice xxS3 PS.f3.length yxS3] w14 := BxS
  have BGR := (ht14.block _ BGR.lt (fun hS => by rcases hS with hS | hS | hS <;> first | (exact absurd hS nbGR1_R) | (exact absurd hS nbGR2_R) | (exact absurd hS nbGR3_R))).trans BGR
  replace BGR : Blk 27 bGR [Value.int .i64 R.f0, .slice xGR1 R.f1.length yGR1, .slice xGR2 R.f2.length yGR2, .slice xGR3 R.f3.length yGR3] w14 := BGR
  have rWR1 := Owns.turn rWR1 ht14 (fun t hX hS => by rcases hS with hS | hS | hS <;> first | (exact (by have q := urGR1 t hS; have p := urWR1 t hX; omega)) | (exact (by have q := urGR2 t hS; have p := urWR1 t hX; omega)) | (exact (by have q := urGR3 t hS; have p := urWR1 t hX; omega)))
  have rWR2 := Owns.turn rWR2 ht14 (fun t hX hS => by rcases hS with hS | hS | hS <;> first | (exact (by have q := urGR1 t hS; have p := urWR2 t hX; omega)) | (exact (by have q := urGR2 t hS; have p := urWR2 t hX; omega)) | (exact (by have q := urGR3 t hS; have p := urWR2 t hX; omega)))
  have rWR3 := Owns.turn rWR3 ht14 (fun t hX hS => by rcases hS with hS | hS | hS <;> first | (exact (by have q := urGR1 t hS; have p := urWR3 t hX; omega)) | (exact (by have q := urGR2 t hS; have p := urWR3 t hX; omega)) | (exact (by have q := urGR3 t hS; have p := urWR3 t hX; omega)))
  have hB14 := hB13.trans (ht14.below (fun t hS => by rcases hS with hS | hS | hS <;> first | (have q := urGR1 t hS; omega) | (have q := urGR2 t hS; omega) | (have q := urGR3 t hS; omega)) hB13.size)
  clear ht14
  have rGR1 := nrGR1
  clear nrGR1
  have rGR2 := nrGR2
  clear nrGR2
  have rGR3 := nrGR3
  clear nrGR3
  have hM := gheld_State (lo := 0) (hi := w14.heap.size) (A1 := xGR1) (c1 := yGR1) (A2 := xGR2) (c2 := yGR2) (A3 := xGR3) (c3 := yGR3) R 1 (((Owns.lies rGR1 urGR1)).more (lo' := 0) (hi' := w14.heap.size) (Nat.zero_le _) (by omega)) (by rw [hM1]; exact (((Owns.lies rGR2 urGR2)).more (lo' := 0) (hi' := w14.heap.size) (Nat.zero_le _) (by omega))) (by rw [hM1, hM2]; exact (((Owns.lies rGR3 urGR3)).more (lo' := 0) (hi' := w14.heap.size) (Nat.zero_le _) (by omega))) (by omega) (by omega)
  rw [hM1, hM2, hM3] at hM
  have dM : decide ((M3 : Int) < 0) = false := by first | (simp; done) | (simp; omega)
  have rbGR0 : w14.cell? ⟨bGR, 0, none⟩ = some (.int .i64 R.f0) := BGR.at rfl
  have rbGR1 : w14.cell? ⟨bGR, 1, none⟩ = some (.slice xGR1 R.f1.length yGR1) := BGR.at rfl
  have rbGR2 : w14.cell? ⟨bGR, 2, none⟩ = some (.slice xGR2 R.f2.length yGR2) := BGR.at rfl
  have rbGR3 : w14.cell? ⟨bGR, 3, none⟩ = some (.slice xGR3 R.f3.length yGR3) := BGR.at rfl
  go_wp2_with fail
  go_at_call 24
  refine Calls.mono (hM) ?_
  rintro e w15 ⟨rfl, hb15⟩
  have hs15 : w14.heap.size ≤ w15.heap.size := hb15.size
  have fL := fL.below hb15
  have fS1 := fS1.below hb15
  have fS2 := fS2.below hb15
  have fS3 := fS3.below hb15
  have kS := kS.below hb15
  have rWR1 := Owns.below rWR1 hb15
  have rWR2 := Owns.below rWR2 hb15
  have rWR3 := Owns.below rWR3 hb15
  have rGR1 := Owns.below rGR1 hb15
  have rGR2 := Owns.below rGR2 hb15
  have rGR3 := Owns.below rGR3 hb15
  have BWR := BWR.below hb15
  have BxS := BxS.below hb15
  have BGR := BGR.below hb15
  have hB15 := hB14.trans (hb15.mono hB14.size)
  clear hb15
  clear hM
  go_upto_region 31 with fail
  go_cut [15] (fun s0 wx => ∃ (V : World) (bR : Nat) (xR1 : Option Addr) (yR1 : Nat) (SR1 : Nat → Prop) (xR2 : Option Addr) (yR2 : Nat) (SR2 : Nat → Prop) (xR3 : Option Addr) (yR3 : Nat) (SR3 : Nat → Prop), V = wx ∧ s0 = .pointer (some ⟨bR, 0, none⟩) ∧ Blk 27 bR [Value.int .i64 R.f0, .slice xR1 R.f1.length yR1, .slice xR2 R.f2.length yR2, .slice xR3 R.f3.length yR3] V ∧ (w.heap.size + 1 ≤ bR) ∧ bR < V.heap.size ∧ (w15.heap.size ≤ bR) ∧ Owns V (ints R.f1) (.slice xR1 R.f1.length yR1) SR1 ∧ Owns V (ints R.f2) (.slice xR2 R.f2.length yR2) SR2 ∧ Owns V (ints R.f3) (.slice xR3 R.f3.length yR3) SR3 ∧ (∀ t, SR1 t → w15.heap.size ≤ t ∧ t < V.heap.size) ∧ (∀ t, SR2 t → w15.heap.size ≤ t ∧ t < V.heap.size) ∧ (∀ t, SR3 t → w15.heap.size ≤ t ∧ t < V.heap.size) ∧ Far xR1 R.f1.length xR2 R.f2.length ∧ Far xR1 R.f1.length xR3 R.f3.length ∧ Far xR2 R.f2.length xR3 R.f3.length ∧ ¬ SR1 bR ∧ ¬ SR2 bR ∧ ¬ SR3 bR ∧ Below w15.heap.size w15 V)
  case first =>
    have hq0 : w.heap.size ≤ w15.heap.size := hB15.size
    have hW0 : Below w15.heap.size w15 w15 := Below.refl _ _
    have ee0 : Below w15.heap.size w15 w15 := Below.refl _ _
    have ed0 : Below w15.heap.size w15 w15.drew := (Below.refl _ _).drew
    have ea0 : Below w15.heap.size w15 (w15.alloc (.cells #[Value.int .i64 0, .slice none 0 0, .slice none 0 0, .slice none 0 0] 27)).drew := ((Below.refl _ _).alloc (Nat.le_refl _) _).drew
    have s3 : w15.drew.cell? ⟨w.heap.size, 0, none⟩ = some (.int .i64 PS.f0) ∧ w15.drew.cell? ⟨w.heap.size, 1, none⟩ = some (.slice aS1 PS.f1.length cS1) ∧ w15.drew.cell? ⟨w.heap.size, 2, none⟩ = some (.slice aS2 PS.f2.length cS2) ∧ w15.drew.cell? ⟨w.heap.size, 3, none⟩ = some (.slice aS3 PS.f3.length cS3) := ⟨(Blk.drew kS).at rfl, (Blk.drew kS).at rfl, (Blk.drew kS).at rfl, (Blk.drew kS).at rfl⟩
    have t3 : (w15.alloc (.cells #[Value.int .i64 0, .slice none 0 0, .slice none 0 0, .slice none 0 0] 27)).drew.cell? ⟨w.heap.size, 0, none⟩ = some (.int .i64 PS.f0) ∧ (w15.alloc (.cells #[Value.int .i64 0, .slice none 0 0, .slice none 0 0, .slice none 0 0] 27)).drew.cell? ⟨w.heap.size, 1, none⟩ = some (.slice aS1 PS.f1.length cS1) ∧ (w15.alloc (.cells #[Value.int .i64 0, .slice none 0 0, .slice none 0 0, .slice none 0 0] 27)).drew.cell? ⟨w.heap.size, 2, none⟩ = some (.slice aS2 PS.f2.length cS2) ∧ (w15.alloc (.cells #[Value.int .i64 0, .slice none 0 0, .slice none 0 0, .slice none 0 0] 27)).drew.cell? ⟨w.heap.size, 3, none⟩ = some (.slice aS3 PS.f3.length cS3) := ⟨(Blk.drew (Blk.alloc kS _)).at rfl, (Blk.drew (Blk.alloc kS _)).at rfl, (Blk.drew (Blk.alloc kS _)).at rfl, (Blk.drew (Blk.alloc kS _)).at rfl⟩
    go_wp2_with fail
    go_region_held3 (fun w' => w'.cell? ⟨w.heap.size, 0, none⟩ = some (.int .i64 PS.f0) ∧ w'.cell? ⟨w.heap.size, 1, none⟩ = some (.slice aS1 PS.f1.length cS1) ∧ w'.cell? ⟨w.heap.size, 2, none⟩ = some (.slice aS2 PS.f2.length cS2) ∧ w'.cell? ⟨w.heap.size, 3, none⟩ = some (.slice aS3 PS.f3.length cS3))
      (first | (with_reducible exact s3) | (with_reducible exact t3) | (with_reducible exact t4) | (with_reducible exact v3) | go_keep)
      (first
      | (go_at_call 30; refine Calls.mono (gto_OpS (lo := 0) (hi := w.heap.size) (fL.below (w := w15) (by first | (with_reducible exact ee0) | (with_reducible exact ed0) | (with_reducible exact ea0))) (Nat.le_trans hq0 (Below.size (B := w15.heap.size) (w := w15) (by first | (with_reducible exact ee0) | (with_reducible exact ed0) | (with_reducible exact ea0)))) (by omega)) ?_; rintro e u1 ⟨v1, rfl, ho, hb⟩; have hx1 := hb; have hv1 : Below w15.heap.size w15 u1 := Below.trans (show Below w15.heap.size w15 _ from (by first | (with_reducible exact ee0) | (with_reducible exact ed0) | (with_reducible exact ea0))) (hb.mono (Below.size (B := w15.heap.size) (w := w15) (by first | (with_reducible exact ee0) | (with_reducible exact ed0) | (with_reducible exact ea0)))); have fL := fL.below hv1; have fS1 := fS1.below hv1; have fS2 := fS2.below hv1; have fS3 := fS3.below hv1; have kS := kS.below hv1; obtain ⟨XL, YL, rfl, _⟩ : ∃ a c, v1 = .slice a lL.length c ∧ True := (by obtain ⟨a, c, q, _⟩ := ho; exact ⟨a, c, q, trivial⟩); have qL := Owns.lies (lo := 0) (hi := u1.heap.size) ho (fun t h => ⟨Nat.zero_le _, h.2⟩); clear ho; have hq1 := Nat.le_trans hq0 hv1.size; have hz1 := hv1.size; have ee1 : Below u1.heap.size u1 u1 := Below.refl _ _; have ed1 := ee1; have ea1 : Below u1.heap.size u1 (u1.alloc (.cells #[Value.int .i64 0, .slice none 0 0, .slice none 0 0, .slice none 0 0] 27)) := (Below.refl _ _).alloc (Nat.le_refl _) _; have hW1 := hW0.trans (hv1.mono hW0.size); have s3 : u1.cell? ⟨w.heap.size, 0, none⟩ = some (.int .i64 PS.f0) ∧ u1.cell? ⟨w.heap.size, 1, none⟩ = some (.slice aS1 PS.f1.length cS1) ∧ u1.cell? ⟨w.heap.size, 2, none⟩ = some (.slice aS2 PS.f2.length cS2) ∧ u1.cell? ⟨w.heap.size, 3, none⟩ = some (.slice aS3 PS.f3.length cS3) := ⟨(kS).at rfl, (kS).at rfl, (kS).at rfl, (kS).at rfl⟩; clear hb; have t3 : (u1.alloc (.cells #[Value.int .i64 0, .slice none 0 0, .slice none 0 0, .slice none 0 0] 27)).cell? ⟨w.heap.size, 0, none⟩ = some (.int .i64 PS.f0) ∧ (u1.alloc (.cells #[Value.int .i64 0, .slice none 0 0, .slice none 0 0, .slice none 0 0] 27)).cell? ⟨w.heap.size, 1, none⟩ = some (.slice aS1 PS.f1.length cS1) ∧ (u1.alloc (.cells #[Value.int .i64 0, .slice none 0 0, .slice none 0 0, .slice none 0 0] 27)).cell? ⟨w.heap.size, 2, none⟩ = some (.slice aS2 PS.f2.length cS2) ∧ (u1.alloc (.cells #[Value.int .i64 0, .slice none 0 0, .slice none 0 0, .slice none 0 0] 27)).cell? ⟨w.heap.size, 3, none⟩ = some (.slice aS3 PS.f3.length cS3) := ⟨(Blk.alloc kS _).at rfl, (Blk.alloc kS _).at rfl, (Blk.alloc kS _).at rfl, (Blk.alloc kS _).at rfl⟩)
      | (go_at_call 27; refine Calls.mono (gto_State (lo := 0) (hi := w.heap.size) PS (fS1.below (w := u1) (by first | (with_reducible exact ee1) | (with_reducible exact ed1) | (with_reducible exact ea1))) (fS2.below (w := u1) (by first | (with_reducible exact ee1) | (with_reducible exact ed1) | (with_reducible exact ea1))) (fS3.below (w := u1) (by first | (with_reducible exact ee1) | (with_reducible exact ed1) | (with_reducible exact ea1))) (Nat.le_trans hq1 (Below.size (B := u1.heap.size) (w := u1) (by first | (with_reducible exact ee1) | (with_reducible exact ed1) | (with_reducible exact ea1)))) (by omega) (by omega) (by omega)) ?_; rintro e u2 ⟨XS1, YS1, XS2, YS2, XS3, YS3, mS1, mS2, rfl, ho1, ho2, ho3, onS0, onS1, onS2, hb⟩; have hx2 := hb; have hv2 : Below u1.heap.size u1 u2 := Below.trans (show Below u1.heap.size u1 _ from (by first | (with_reducible exact ee1) | (with_reducible exact ed1) | (with_reducible exact ea1))) (hb.mono (Below.size (B := u1.heap.size) (w := u1) (by first | (with_reducible exact ee1) | (with_reducible exact ed1) | (with_reducible exact ea1)))); have qL := Lies.below qL hv2; have fL := fL.below hv2; have fS1 := fS1.below hv2; have fS2 := fS2.below hv2; have fS3 := fS3.below hv2; have kS := kS.below hv2; have qS1 := Owns.lies (lo := 0) (hi := u2.heap.size) ho1 (fun t h => ⟨Nat.zero_le _, by have := h.2; omega⟩); have qS2 := Owns.lies (lo := 0) (hi := u2.heap.size) ho2 (fun t h => ⟨Nat.zero_le _, by have := h.2; omega⟩); have qS3 := Owns.lies (lo := 0) (hi := u2.heap.size) ho3 (fun t h => ⟨Nat.zero_le _, by have := h.2; omega⟩); clear ho1 ho2 ho3 onS0 onS1 onS2; have hq2 := Nat.le_trans hq1 hv2.size; have hz2 := hv2.size; have ee2 : Below u2.heap.size u2 u2 := Below.refl _ _; have ed2 := ee2; have ea2 : Below u2.heap.size u2 (u2.alloc (.cells #[Value.int .i64 0, .slice none 0 0, .slice none 0 0, .slice none 0 0] 27)) := (Below.refl _ _).alloc (Nat.le_refl _) _; have hW2 := hW1.trans (hv2.mono hW1.size); have s3 : u2.cell? ⟨w.heap.size, 0, none⟩ = some (.int .i64 PS.f0) ∧ u2.cell? ⟨w.heap.size, 1, none⟩ = some (.slice aS1 PS.f1.length cS1) ∧ u2.cell? ⟨w.heap.size, 2, none⟩ = some (.slice aS2 PS.f2.length cS2) ∧ u2.cell? ⟨w.heap.size, 3, none⟩ = some (.slice aS3 PS.f3.length cS3) := ⟨(kS).at rfl, (kS).at rfl, (kS).at rfl, (kS).at rfl⟩; clear hb; have t3 : (u2.alloc (.cells #[Value.int .i64 0, .slice none 0 0, .slice none 0 0, .slice none 0 0] 27)).cell? ⟨w.heap.size, 0, none⟩ = some (.int .i64 PS.f0) ∧ (u2.alloc (.cells #[Value.int .i64 0, .slice none 0 0, .slice none 0 0, .slice none 0 0] 27)).cell? ⟨w.heap.size, 1, none⟩ = some (.slice aS1 PS.f1.length cS1) ∧ (u2.alloc (.cells #[Value.int .i64 0, .slice none 0 0, .slice none 0 0, .slice none 0 0] 27)).cell? ⟨w.heap.size, 2, none⟩ = some (.slice aS2 PS.f2.length cS2) ∧ (u2.alloc (.cells #[Value.int .i64 0, .slice none 0 0, .slice none 0 0, .slice none 0 0] 27)).cell? ⟨w.heap.size, 3, none⟩ = some (.slice aS3 PS.f3.length cS3) := ⟨(Blk.alloc kS _).at rfl, (Blk.alloc kS _).at rfl, (Blk.alloc kS _).at rfl, (Blk.alloc kS _).at rfl⟩)
      | (go_at_call 12; refine Calls.mono (hI _ _ _ _ _ _ _ _ _ _ _ _ _ _ _ _ _ (Lies.below (w := u2) qL (by first | (with_reducible exact ee2) | (with_reducible exact ed2) | (with_reducible exact ea2))) (Nat.le_trans (by omega) (Below.size (B := u2.heap.size) (w := u2) (by first | (with_reducible exact ee2) | (with_reducible exact ed2) | (with_reducible exact ea2)))) (Lies.below (w := u2) qS1 (by first | (with_reducible exact ee2) | (with_reducible exact ed2) | (with_reducible exact ea2))) (Nat.le_trans (by omega) (Below.size (B := u2.heap.size) (w := u2) (by first | (with_reducible exact ee2) | (with_reducible exact ed2) | (with_reducible exact ea2)))) (Lies.below (w := u2) qS2 (by first | (with_reducible exact ee2) | (with_reducible exact ed2) | (with_reducible exact ea2))) (Nat.le_trans (by omega) (Below.size (B := u2.heap.size) (w := u2) (by first | (with_reducible exact ee2) | (with_reducible exact ed2) | (with_reducible exact ea2)))) (Lies.below (w := u2) qS3 (by first | (with_reducible exact ee2) | (with_reducible exact ed2) | (with_reducible exact ea2))) (Nat.le_trans (by omega) (Below.size (B := u2.heap.size) (w := u2) (by first | (with_reducible exact ee2) | (with_reducible exact ed2) | (with_reducible exact ea2))))) ?_; rintro e u3 ⟨xR1, yR1, SR1, xR2, yR2, SR2, xR3, yR3, SR3, rfl, roR1, roR2, roR3, suR1, suR2, suR3, diR1_R2, diR1_R3, diR2_R3, hb⟩; have hx3 := hb; have hv3 : Below u2.heap.size u2 u3 := Below.trans (show Below u2.heap.size u2 _ from (by first | (with_reducible exact ee2) | (with_reducible exact ed2) | (with_reducible exact ea2))) (hb.mono (Below.size (B := u2.heap.size) (w := u2) (by first | (with_reducible exact ee2) | (with_reducible exact ed2) | (with_reducible exact ea2)))); have qL := Lies.below qL hv3; have qS1 := Lies.below qS1 hv3; have qS2 := Lies.below qS2 hv3; have qS3 := Lies.below qS3 hv3; have fL := fL.below hv3; have fS1 := fS1.below hv3; have fS2 := fS2.below hv3; have fS3 := fS3.below hv3; have kS := kS.below hv3; have szR1 := hb.size; have szR2 := hb.size; have szR3 := hb.size; have hq3 := Nat.le_trans hq2 hv3.size; have hz3 := hv3.size; have ee3 : Below u3.heap.size u3 u3 := Below.refl _ _; have ed3 := ee3; have ea3 : Below u3.heap.size u3 (u3.alloc (.cells #[Value.int .i64 0, .slice none 0 0, .slice none 0 0, .slice none 0 0] 27)) := (Below.refl _ _).alloc (Nat.le_refl _) _; have hW3 := hW2.trans (hv3.mono hW2.size); have s3 : u3.cell? ⟨w.heap.size, 0, none⟩ = some (.int .i64 PS.f0) ∧ u3.cell? ⟨w.heap.size, 1, none⟩ = some (.slice aS1 PS.f1.length cS1) ∧ u3.cell? ⟨w.heap.size, 2, none⟩ = some (.slice aS2 PS.f2.length cS2) ∧ u3.cell? ⟨w.heap.size, 3, none⟩ = some (.slice aS3 PS.f3.length cS3) := ⟨(kS).at rfl, (kS).at rfl, (kS).at rfl, (kS).at rfl⟩; clear hb; have t4 : (u3.alloc (.cells #[Value.int .i64 R.f0, .slice xR1 R.f1.length yR1, .slice xR2 R.f2.length yR2, .slice xR3 R.f3.length yR3] 27)).cell? ⟨w.heap.size, 0, none⟩ = some (.int .i64 PS.f0) ∧ (u3.alloc (.cells #[Value.int .i64 R.f0, .slice xR1 R.f1.length yR1, .slice xR2 R.f2.length yR2, .slice xR3 R.f3.length yR3] 27)).cell? ⟨w.heap.size, 1, none⟩ = some (.slice aS1 PS.f1.length cS1) ∧ (u3.alloc (.cells #[Value.int .i64 R.f0, .slice xR1 R.f1.length yR1, .slice xR2 R.f2.length yR2, .slice xR3 R.f3.length yR3] 27)).cell? ⟨w.heap.size, 2, none⟩ = some (.slice aS2 PS.f2.length cS2) ∧ (u3.alloc (.cells #[Value.int .i64 R.f0, .slice xR1 R.f1.length yR1, .slice xR2 R.f2.length yR2, .slice xR3 R.f3.length yR3] 27)).cell? ⟨w.heap.size, 3, none⟩ = some (.slice aS3 PS.f3.length cS3) := ⟨(Blk.alloc kS _).at rfl, (Blk.alloc kS _).at rfl, (Blk.alloc kS _).at rfl, (Blk.alloc kS _).at rfl⟩; (first | ((with_reducible have qb := ((((Blk.drew (Blk.new 27 [Value.int .i64 0, .slice none 0 0, .slice none 0 0, .slice none 0 0] w15)).below hx1).below hx2).below hx3)); (with_reducible have lb := Blk.lt (((Blk.drew (Blk.new 27 [Value.int .i64 0, .slice none 0 0, .slice none 0 0, .slice none 0 0] w15)).below hx1).below hx2)); (try simp only [gsize_alloc] at lb); (try simp only [gsize_drew] at lb); have o0 := qb.at (x := 0) rfl; have o'0 := qb.free 0; have o1 := qb.at (x := 1) rfl; have o'1 := qb.free 1; have o2 := qb.at (x := 2) rfl; have o'2 := qb.free 2; have o3 := qb.at (x := 3) rfl; have o'3 := qb.free 3; have KkS := ((((kS.other (a := ⟨w15.heap.size, 0, none⟩) (.int .i64 R.f0) (by dsimp only; omega)).other (a := ⟨w15.heap.size, 1, none⟩) (.slice xR1 R.f1.length yR1) (by dsimp only; omega)).other (a := ⟨w15.heap.size, 2, none⟩) (.slice xR2 R.f2.length yR2) (by dsimp only; omega)).other (a := ⟨w15.heap.size, 3, none⟩) (.slice xR3 R.f3.length yR3) (by dsimp only; omega)); have v3 : ((((u3.setCell ⟨w15.heap.size, 0, none⟩ (.int .i64 R.f0)).setCell ⟨w15.heap.size, 1, none⟩ (.slice xR1 R.f1.length yR1)).setCell ⟨w15.heap.size, 2, none⟩ (.slice xR2 R.f2.length yR2)).setCell ⟨w15.heap.size, 3, none⟩ (.slice xR3 R.f3.length yR3)).cell? ⟨w.heap.size, 0, none⟩ = some (.int .i64 PS.f0) ∧ ((((u3.setCell ⟨w15.heap.size, 0, none⟩ (.int .i64 R.f0)).setCell ⟨w15.heap.size, 1, none⟩ (.slice xR1 R.f1.length yR1)).setCell ⟨w15.heap.size, 2, none⟩ (.slice xR2 R.f2.length yR2)).setCell ⟨w15.heap.size, 3, none⟩ (.slice xR3 R.f3.length yR3)).cell? ⟨w.heap.size, 1, none⟩ = some (.slice aS1 PS.f1.length cS1) ∧ ((((u3.setCell ⟨w15.heap.size, 0, none⟩ (.int .i64 R.f0)).setCell ⟨w15.heap.size, 1, none⟩ (.slice xR1 R.f1.length yR1)).setCell ⟨w15.heap.size, 2, none⟩ (.slice xR2 R.f2.length yR2)).setCell ⟨w15.heap.size, 3, none⟩ (.slice xR3 R.f3.length yR3)).cell? ⟨w.heap.size, 2, none⟩ = some (.slice aS2 PS.f2.length cS2) ∧ ((((u3.setCell ⟨w15.heap.size, 0, none⟩ (.int .i64 R.f0)).setCell ⟨w15.heap.size, 1, none⟩ (.slice xR1 R.f1.length yR1)).setCell ⟨w15.heap.size, 2, none⟩ (.slice xR2 R.f2.length yR2)).setCell ⟨w15.heap.size, 3, none⟩ (.slice xR3 R.f3.length yR3)).cell? ⟨w.heap.size, 3, none⟩ = some (.slice aS3 PS.f3.length cS3) := ⟨KkS.at rfl, KkS.at rfl, KkS.at rfl, KkS.at rfl⟩) | ((with_reducible have qb := (((Blk.new 27 [Value.int .i64 0, .slice none 0 0, .slice none 0 0, .slice none 0 0] u1).below hx2).below hx3)); (with_reducible have lb := Blk.lt ((Blk.new 27 [Value.int .i64 0, .slice none 0 0, .slice none 0 0, .slice none 0 0] u1).below hx2)); (try simp only [gsize_alloc] at lb); (try simp only [gsize_drew] at lb); have o0 := qb.at (x := 0) rfl; have o'0 := qb.free 0; have o1 := qb.at (x := 1) rfl; have o'1 := qb.free 1; have o2 := qb.at (x := 2) rfl; have o'2 := qb.free 2; have o3 := qb.at (x := 3) rfl; have o'3 := qb.free 3; have KkS := ((((kS.other (a := ⟨u1.heap.size, 0, none⟩) (.int .i64 R.f0) (by dsimp only; omega)).other (a := ⟨u1.heap.size, 1, none⟩) (.slice xR1 R.f1.length yR1) (by dsimp only; omega)).other (a := ⟨u1.heap.size, 2, none⟩) (.slice xR2 R.f2.length yR2) (by dsimp only; omega)).other (a := ⟨u1.heap.size, 3, none⟩) (.slice xR3 R.f3.length yR3) (by dsimp only; omega)); have v3 : ((((u3.setCell ⟨u1.heap.size, 0, none⟩ (.int .i64 R.f0)).setCell ⟨u1.heap.size, 1, none⟩ (.slice xR1 R.f1.length yR1)).setCell ⟨u1.heap.size, 2, none⟩ (.slice xR2 R.f2.length yR2)).setCell ⟨u1.heap.size, 3, none⟩ (.slice xR3 R.f3.length yR3)).cell? ⟨w.heap.size, 0, none⟩ = some (.int .i64 PS.f0) ∧ ((((u3.setCell ⟨u1.heap.size, 0, none⟩ (.int .i64 R.f0)).setCell ⟨u1.heap.size, 1, none⟩ (.slice xR1 R.f1.length yR1)).setCell ⟨u1.heap.size, 2, none⟩ (.slice xR2 R.f2.length yR2)).setCell ⟨u1.heap.size, 3, none⟩ (.slice xR3 R.f3.length yR3)).cell? ⟨w.heap.size, 1, none⟩ = some (.slice aS1 PS.f1.length cS1) ∧ ((((u3.setCell ⟨u1.heap.size, 0, none⟩ (.int .i64 R.f0)).setCell ⟨u1.heap.size, 1, none⟩ (.slice xR1 R.f1.length yR1)).setCell ⟨u1.heap.size, 2, none⟩ (.slice xR2 R.f2.length yR2)).setCell ⟨u1.heap.size, 3, none⟩ (.slice xR3 R.f3.length yR3)).cell? ⟨w.heap.size, 2, none⟩ = some (.slice aS2 PS.f2.length cS2) ∧ ((((u3.setCell ⟨u1.heap.size, 0, none⟩ (.int .i64 R.f0)).setCell ⟨u1.heap.size, 1, none⟩ (.slice xR1 R.f1.length yR1)).setCell ⟨u1.heap.size, 2, none⟩ (.slice xR2 R.f2.length yR2)).setCell ⟨u1.heap.size, 3, none⟩ (.slice xR3 R.f3.length yR3)).cell? ⟨w.heap.size, 3, none⟩ = some (.slice aS3 PS.f3.length cS3) := ⟨KkS.at rfl, KkS.at rfl, KkS.at rfl, KkS.at rfl⟩) | ((with_reducible have qb := ((Blk.new 27 [Value.int .i64 0, .slice none 0 0, .slice none 0 0, .slice none 0 0] u2).below hx3)); (with_reducible have lb := Blk.lt (Blk.new 27 [Value.int .i64 0, .slice none 0 0, .slice none 0 0, .slice none 0 0] u2)); (try simp only [gsize_alloc] at lb); (try simp only [gsize_drew] at lb); have o0 := qb.at (x := 0) rfl; have o'0 := qb.free 0; have o1 := qb.at (x := 1) rfl; have o'1 := qb.free 1; have o2 := qb.at (x := 2) rfl; have o'2 := qb.free 2; have o3 := qb.at (x := 3) rfl; have o'3 := qb.free 3; have KkS := ((((kS.other (a := ⟨u2.heap.size, 0, none⟩) (.int .i64 R.f0) (by dsimp only; omega)).other (a := ⟨u2.heap.size, 1, none⟩) (.slice xR1 R.f1.length yR1) (by dsimp only; omega)).other (a := ⟨u2.heap.size, 2, none⟩) (.slice xR2 R.f2.length yR2) (by dsimp only; omega)).other (a := ⟨u2.heap.size, 3, none⟩) (.slice xR3 R.f3.length yR3) (by dsimp only; omega)); have v3 : ((((u3.setCell ⟨u2.heap.size, 0, none⟩ (.int .i64 R.f0)).setCell ⟨u2.heap.size, 1, none⟩ (.slice xR1 R.f1.length yR1)).setCell ⟨u2.heap.size, 2, none⟩ (.slice xR2 R.f2.length yR2)).setCell ⟨u2.heap.size, 3, none⟩ (.slice xR3 R.f3.length yR3)).cell? ⟨w.heap.size, 0, none⟩ = some (.int .i64 PS.f0) ∧ ((((u3.setCell ⟨u2.heap.size, 0, none⟩ (.int .i64 R.f0)).setCell ⟨u2.heap.size, 1, none⟩ (.slice xR1 R.f1.length yR1)).setCell ⟨u2.heap.size, 2, none⟩ (.slice xR2 R.f2.length yR2)).setCell ⟨u2.heap.size, 3, none⟩ (.slice xR3 R.f3.length yR3)).cell? ⟨w.heap.size, 1, none⟩ = some (.slice aS1 PS.f1.length cS1) ∧ ((((u3.setCell ⟨u2.heap.size, 0, none⟩ (.int .i64 R.f0)).setCell ⟨u2.heap.size, 1, none⟩ (.slice xR1 R.f1.length yR1)).setCell ⟨u2.heap.size, 2, none⟩ (.slice xR2 R.f2.length yR2)).setCell ⟨u2.heap.size, 3, none⟩ (.slice xR3 R.f3.length yR3)).cell? ⟨w.heap.size, 2, none⟩ = some (.slice aS2 PS.f2.length cS2) ∧ ((((u3.setCell ⟨u2.heap.size, 0, none⟩ (.int .i64 R.f0)).setCell ⟨u2.heap.size, 1, none⟩ (.slice xR1 R.f1.length yR1)).setCell ⟨u2.heap.size, 2, none⟩ (.slice xR2 R.f2.length yR2)).setCell ⟨u2.heap.size, 3, none⟩ (.slice xR3 R.f3.length yR3)).cell? ⟨w.heap.size, 3, none⟩ = some (.slice aS3 PS.f3.length cS3) := ⟨KkS.at rfl, KkS.at rfl, KkS.at rfl, KkS.at rfl⟩) | skip); have t3 : (u3.alloc (.cells #[Value.int .i64 0, .slice none 0 0, .slice none 0 0, .slice none 0 0] 27)).cell? ⟨w.heap.size, 0, none⟩ = some (.int .i64 PS.f0) ∧ (u3.alloc (.cells #[Value.int .i64 0, .slice none 0 0, .slice none 0 0, .slice none 0 0] 27)).cell? ⟨w.heap.size, 1, none⟩ = some (.slice aS1 PS.f1.length cS1) ∧ (u3.alloc (.cells #[Value.int .i64 0, .slice none 0 0, .slice none 0 0, .slice none 0 0] 27)).cell? ⟨w.heap.size, 2, none⟩ = some (.slice aS2 PS.f2.length cS2) ∧ (u3.alloc (.cells #[Value.int .i64 0, .slice none 0 0, .slice none 0 0, .slice none 0 0] 27)).cell? ⟨w.heap.size, 3, none⟩ = some (.slice aS3 PS.f3.length cS3) := ⟨(Blk.alloc kS _).at rfl, (Blk.alloc kS _).at rfl, (Blk.alloc kS _).at rfl, (Blk.alloc kS _).at rfl⟩)
      )
    all_goals
      go_wp2_with fail
      go_meet
      case rel =>
        first
        | exact ⟨_, _, _, _, SR1, _, _, SR2, _, _, SR3, rfl, rfl, ((((qb.set 0 (.int .i64 R.f0)).set 1 (.slice xR1 R.f1.length yR1)).set 2 (.slice xR2 R.f2.length yR2)).set 3 (.slice xR3 R.f3.length yR3)), (by (try simp only [gsize_drew]); omega), (by simp only [gsize_set]; exact qb.lt), (by (try simp only [gsize_drew]); omega), (Owns.keep roR1 fun t _ hS => by have q := suR1 t hS; (try simp only [gsize_alloc] at q); (try simp only [gsize_drew] at q); (iterate 4 (refine Eq.trans (Below.heap_setCell _ _ _ _ (by dsimp only; (try simp only [gsize_drew]); omega)) ?_)); rfl), (Owns.keep roR2 fun t _ hS => by have q := suR2 t hS; (try simp only [gsize_alloc] at q); (try simp only [gsize_drew] at q); (iterate 4 (refine Eq.trans (Below.heap_setCell _ _ _ _ (by dsimp only; (try simp only [gsize_drew]); omega)) ?_)); rfl), (Owns.keep roR3 fun t _ hS => by have q := suR3 t hS; (try simp only [gsize_alloc] at q); (try simp only [gsize_drew] at q); (iterate 4 (refine Eq.trans (Below.heap_setCell _ _ _ _ (by dsimp only; (try simp only [gsize_drew]); omega)) ?_)); rfl), (fun t hS => by have q := suR1 t hS; (try simp only [gsize_alloc] at q); (try simp only [gsize_drew] at q); (try simp only [gsize_alloc]); (try simp only [gsize_set]); omega), (fun t hS => by have q := suR2 t hS; (try simp only [gsize_alloc] at q); (try simp only [gsize_drew] at q); (try simp only [gsize_alloc]); (try simp only [gsize_set]); omega), (fun t hS => by have q := suR3 t hS; (try simp only [gsize_alloc] at q); (try simp only [gsize_drew] at q); (try simp only [gsize_alloc]); (try simp only [gsize_set]); omega), diR1_R2, diR1_R3, diR2_R3, (fun hS => by have q := suR1 _ hS; (try simp only [gsize_alloc] at q); (try simp only [gsize_drew] at q); omega), (fun hS => by have q := suR2 _ hS; (try simp only [gsize_alloc] at q); (try simp only [gsize_drew] at q); omega), (fun hS => by have q := suR3 _ hS; (try simp only [gsize_alloc] at q); (try simp only [gsize_drew] at q); omega), (by (iterate 4 (refine Below.setCell ?_ (by (try dsimp only); (try simp only [gsize_drew]); omega) _)); exact hW3)⟩
        | exact ⟨_, _, _, _, SR1, _, _, SR2, _, _, SR3, rfl, rfl, Blk.new _ [Value.int .i64 R.f0, .slice xR1 R.f1.length yR1, .slice xR2 R.f2.length yR2, .slice xR3 R.f3.length yR3] u3, (by omega), (by rw [gsize_alloc]; omega), (by omega), (Owns.below roR1 ((Below.refl _ _).alloc (Nat.le_refl _) _)), (Owns.below roR2 ((Below.refl _ _).alloc (Nat.le_refl _) _)), (Owns.below roR3 ((Below.refl _ _).alloc (Nat.le_refl _) _)), (fun t hS => by have q := suR1 t hS; (try simp only [gsize_alloc] at q); (try simp only [gsize_drew] at q); (try simp only [gsize_alloc]); (try simp only [gsize_set]); omega), (fun t hS => by have q := suR2 t hS; (try simp only [gsize_alloc] at q); (try simp only [gsize_drew] at q); (try simp only [gsize_alloc]); (try simp only [gsize_set]); omega), (fun t hS => by have q := suR3 t hS; (try simp only [gsize_alloc] at q); (try simp only [gsize_drew] at q); (try simp only [gsize_alloc]); (try simp only [gsize_set]); omega), diR1_R2, diR1_R3, diR2_R3, (fun hS => by have q := suR1 _ hS; (try simp only [gsize_alloc] at q); (try simp only [gsize_drew] at q); omega), (fun hS => by have q := suR2 _ hS; (try simp only [gsize_alloc] at q); (try simp only [gsize_drew] at q); omega), (fun hS => by have q := suR3 _ hS; (try simp only [gsize_alloc] at q); (try simp only [gsize_drew] at q); omega), (Below.alloc hW3 hW3.size _)⟩
  case rest =>
  obtain ⟨w16, bHR, xHR1, yHR1, SHR1, xHR2, yHR2, SHR2, xHR3, yHR3, SHR3, rfl, rfl, BHR, lbHR, ubHR, mbHR, rHR1, rHR2, rHR3, urHR1, urHR2, urHR3, udHR1_R2, udHR1_R3, udHR2_R3, nbHR1_R, nbHR2_R, nbHR3_R, hb16⟩ := hcut
  have hs16 : w15.heap.size ≤ w16.heap.size := hb16.size
  have fL := fL.below hb16
  have fS1 := fS1.below hb16
  have fS2 := fS2.below hb16
  have fS3 := fS3.below hb16
  have kS := kS.below hb16
  have rWR1 := Owns.below rWR1 hb16
  have rWR2 := Owns.below rWR2 hb16
  have rWR3 := Owns.below rWR3 hb16
  have rGR1 := Owns.below rGR1 hb16
  have rGR2 := Owns.below rGR2 hb16
  have rGR3 := Owns.below rGR3 hb16
  have BWR := BWR.below hb16
  have BxS := BxS.below hb16
  have BGR := BGR.below hb16
  have hB16 := hB15.trans (hb16.mono hB15.size)
  clear hb16
  have rbHR0 : w16.cell? ⟨bHR, 0, none⟩ = some (.int .i64 R.f0) := BHR.at rfl
  have rbHR1 : w16.cell? ⟨bHR, 1, none⟩ = some (.slice xHR1 R.f1.length yHR1) := BHR.at rfl
  have rbHR2 : w16.cell? ⟨bHR, 2, none⟩ = some (.slice xHR2 R.f2.length yHR2) := BHR.at rfl
  have rbHR3 : w16.cell? ⟨bHR, 3, none⟩ = some (.slice xHR3 R.f3.length yHR3) := BHR.at rfl
  have rbWR0 : w16.cell? ⟨bWR, 0, none⟩ = some (.int .i64 R.f0) := BWR.at rfl
  have rbWR1 : w16.cell? ⟨bWR, 1, none⟩ = some (.slice xWR1 R.f1.length yWR1) := BWR.at rfl
  have rbWR2 : w16.cell? ⟨bWR, 2, none⟩ = some (.slice xWR2 R.f2.length yWR2) := BWR.at rfl
  have rbWR3 : w16.cell? ⟨bWR, 3, none⟩ = some (.slice xWR3 R.f3.length yWR3) := BWR.at rfl
  go_wp2_with fail
  go_at_call 22
  refine Calls.mono (geq_State R (((Owns.lies rHR1 urHR1)).more (lo' := 0) (hi' := w16.heap.size) (Nat.zero_le _) (by omega)) (((Owns.lies rHR2 urHR2)).more (lo' := 0) (hi' := w16.heap.size) (Nat.zero_le _) (by omega)) (((Owns.lies rHR3 urHR3)).more (lo' := 0) (hi' := w16.heap.size) (Nat.zero_le _) (by omega)) (((Owns.lies rWR1 urWR1)).more (lo' := 0) (hi' := w16.heap.size) (Nat.zero_le _) (by omega)) (((Owns.lies rWR2 urWR2)).more (lo' := 0) (hi' := w16.heap.size) (Nat.zero_le _) (by omega)) (((Owns.lies rWR3 urWR3)).more (lo' := 0) (hi' := w16.heap.size) (Nat.zero_le _) (by omega)) (by omega) (by omega)) ?_
  rintro e w17 ⟨rfl, hb17⟩
  have hs17 : w16.heap.size ≤ w17.heap.size := hb17.size
  have fL := fL.below hb17
  have fS1 := fS1.below hb17
  have fS2 := fS2.below hb17
  have fS3 := fS3.below hb17
  have kS := kS.below hb17
  have rWR1 := Owns.below rWR1 hb17
  have rWR2 := Owns.below rWR2 hb17
  have rWR3 := Owns.below rWR3 hb17
  have rGR1 := Owns.below rGR1 hb17
  have rGR2 := Owns.below rGR2 hb17
  have rGR3 := Owns.below rGR3 hb17
  have rHR1 := Owns.below rHR1 hb17
  have rHR2 := Owns.below rHR2 hb17
  have rHR3 := Owns.below rHR3 hb17
  have BWR := BWR.below hb17
  have BxS := BxS.below hb17
  have BGR := BGR.below hb17
  have BHR := BHR.below hb17
  have hB17 := hB16.trans (hb17.mono hB16.size)
  clear hb17
  have hM := gheld_State (lo := 0) (hi := w17.heap.size) (A1 := xGR1) (c1 := yGR1) (A2 := xGR2) (c2 := yGR2) (A3 := xGR3) (c3 := yGR3) R 1 (((Owns.lies rGR1 urGR1)).more (lo' := 0) (hi' := w17.heap.size) (Nat.zero_le _) (by omega)) (by rw [hM1]; exact (((Owns.lies rGR2 urGR2)).more (lo' := 0) (hi' := w17.heap.size) (Nat.zero_le _) (by omega))) (by rw [hM1, hM2]; exact (((Owns.lies rGR3 urGR3)).more (lo' := 0) (hi' := w17.heap.size) (Nat.zero_le _) (by omega))) (by omega) (by omega)
  rw [hM1, hM2, hM3] at hM
  have dM : decide ((M3 : Int) < 0) = false := by first | (simp; done) | (simp; omega)
  have rbGR0 : w17.cell? ⟨bGR, 0, none⟩ = some (.int .i64 R.f0) := BGR.at rfl
  have rbGR1 : w17.cell? ⟨bGR, 1, none⟩ = some (.slice xGR1 R.f1.length yGR1) := BGR.at rfl
  have rbGR2 : w17.cell? ⟨bGR, 2, none⟩ = some (.slice xGR2 R.f2.length yGR2) := BGR.at rfl
  have rbGR3 : w17.cell? ⟨bGR, 3, none⟩ = some (.slice xGR3 R.f3.length yGR3) := BGR.at rfl
  go_wp2_with fail
  go_at_call 24
  refine Calls.mono (hM) ?_
  rintro e w18 ⟨rfl, hb18⟩
  have hs18 : w17.heap.size ≤ w18.heap.size := hb18.size
  have fL := fL.below hb18
  have fS1 := fS1.below hb18
  have fS2 := fS2.below hb18
  have fS3 := fS3.below hb18
  have kS := kS.below hb18
  have rWR1 := Owns.below rWR1 hb18
  have rWR2 := Owns.below rWR2 hb18
  have rWR3 := Owns.below rWR3 hb18
  have rGR1 := Owns.below rGR1 hb18
  have rGR2 := Owns.below rGR2 hb18
  have rGR3 := Owns.below rGR3 hb18
  have rHR1 := Owns.below rHR1 hb18
  have rHR2 := Owns.below rHR2 hb18
  have rHR3 := Owns.below rHR3 hb18
  have BWR := BWR.below hb18
  have BxS := BxS.below hb18
  have BGR := BGR.below hb18
  have BHR := BHR.below hb18
  have hB18 := hB17.trans (hb18.mono hB17.size)
  clear hb18
  clear hM
  go_wp2
  go_ret
  exact ⟨rfl, hB18⟩
end Go.Proofs.Ytbohkohccnieiaa.FnExactStepStateW
