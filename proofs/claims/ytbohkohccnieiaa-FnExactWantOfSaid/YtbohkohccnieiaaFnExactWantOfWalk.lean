/-
  The law FnExactWantOf returns true, and leaves what was there as it was.
  Conditions: the arguments can be read.
-/
import Derived.Test.YtbohkohccnieiaaMachW
import Derived.Test.YtbohkohccnieiaaMachI
import Derived.Deep.CutBlock
import Derived.Deep.DeepCutAuto
import Derived.Deep.RegionHeld3
namespace Go.Proofs.Ytbohkohccnieiaa.FnExactWantOfW
open Go Go.RowKit Go.Proofs.Ytbohkohccnieiaa.Mem Go.Proofs.Ytbohkohccnieiaa.Gen Go.Proofs.Ytbohkohccnieiaa.Scripts Go.Proofs.Ytbohkohccnieiaa.Mach
set_option linter.unusedVariables false

set_option maxHeartbeats 4000000 in
set_option maxRecDepth 100000 in
theorem law_walk (lL : List TOp) (aL : Option Addr) (cL : Nat) (PS : TState) (aS1 : Option Addr) (cS1 : Nat) (aS2 : Option Addr) (cS2 : Nat) (aS3 : Option Addr) (cS3 : Nat) (w : World) (fL : Lies 0 w.heap.size w (dOp lL) (.slice aL lL.length cL)) (bS0 : (Lit.int .i64 PS.f0).wf = true) (fS1 : Lies 0 w.heap.size w (ints PS.f1) (.slice aS1 PS.f1.length cS1)) (fS2 : Lies 0 w.heap.size w (ints PS.f2) (.slice aS2 PS.f2.length cS2)) (fS3 : Lies 0 w.heap.size w (ints PS.f3) (.slice aS3 PS.f3.length cS3)) :
    Calls Try.prog 6 #[.slice aL lL.length cL, (Value.agg #[.int .i64 PS.f0, .slice aS1 PS.f1.length cS1, .slice aS2 PS.f2.length cS2, .slice aS3 PS.f3.length cS3])] w fun e w' => e = .returned (.bool true) ∧ Below w.heap.size w w' := by
  have hB0 : Below w.heap.size w (w.alloc (.cells #[Value.int .i64 PS.f0, .slice aS1 PS.f1.length cS1, .slice aS2 PS.f2.length cS2, .slice aS3 PS.f3.length cS3] 45)) := by repeat' (first | exact Below.refl _ _ | assumption | refine Below.setCell ?_ ?_ _ | refine Below.alloc ?_ ?_ _ | refine Gen.gbelow_drewN ?_ _ | refine Below.drew ?_ | exact Nat.le_refl _ | omega | (dsimp only; omega) | refine Gen.gle_alloc ?_ | refine Gen.gle_set ?_ | refine Gen.gle_drewN ?_ | refine Gen.gle_drew ?_)
  have hs0 : (w.alloc (.cells #[Value.int .i64 PS.f0, .slice aS1 PS.f1.length cS1, .slice aS2 PS.f2.length cS2, .slice aS3 PS.f3.length cS3] 45)).heap.size = w.heap.size + 1 := by simp only [gsize_alloc]
  have kS : Blk 45 (w.heap.size) [Value.int .i64 PS.f0, .slice aS1 PS.f1.length cS1, .slice aS2 PS.f2.length cS2, .slice aS3 PS.f3.length cS3] (w.alloc (.cells #[Value.int .i64 PS.f0, .slice aS1 PS.f1.length cS1, .slice aS2 PS.f2.length cS2, .slice aS3 PS.f3.length cS3] 45)) := by
    have q := Blk.new 45 [Value.int .i64 PS.f0, .slice aS1 PS.f1.length cS1, .slice aS2 PS.f2.length cS2, .slice aS3 PS.f3.length cS3] w
    exact q
  have fL := fL.below hB0
  have fS1 := fS1.below hB0
  have fS2 := fS2.below hB0
  have fS3 := fS3.below hB0
  go_enter Try.func6, Try.ntmps6
  go_wp2_with fail
  go_at_call 28
  refine Calls.mono (gsz_OpS (lo := 0) (hi := w.heap.size) fL hB0.size 1048576 (by omega) (by omega)) ?_
  rintro e w1 ⟨rfl, hb1⟩
  have hs1 : (w.alloc (.cells #[Value.int .i64 PS.f0, .slice aS1 PS.f1.length cS1, .slice aS2 PS.f2.length cS2, .slice aS3 PS.f3.length cS3] 45)).heap.size ≤ w1.heap.size := hb1.size
  have fL := fL.below hb1
  have fS1 := fS1.below hb1
  have fS2 := fS2.below hb1
  have fS3 := fS3.below hb1
  have kS := kS.below hb1
  have hB1 := hB0.trans (hb1.mono hB0.size)
  clear hb1
  have hl1 := left_cases 1048576 (room (dOp lL)) (by omega)
  obtain ⟨L1, hL1⟩ : ∃ L, left 1048576 (room (dOp lL)) = L := ⟨_, rfl⟩
  rw [hL1] at hl1 ⊢
  rcases hl1 with ⟨rfl, hl1⟩ | ⟨hl1, gl1⟩
  · go_wp2
    go_ret
    exact ⟨rfl, hB1⟩
  have dl1 : decide (L1 < 0) = false := by simp; omega
  have ml1 : L1 ≤ 1048576 := by omega
  have rmL : room (dOp lL) ≤ 1048576 := by omega
  clear hl1 hL1
  have cbS0 : w1.cell? ⟨w.heap.size, 0, none⟩ = some (.int .i64 PS.f0) := kS.at rfl
  have cbS1 : w1.cell? ⟨w.heap.size, 1, none⟩ = some (.slice aS1 PS.f1.length cS1) := kS.at rfl
  have cbS2 : w1.cell? ⟨w.heap.size, 2, none⟩ = some (.slice aS2 PS.f2.length cS2) := kS.at rfl
  have cbS3 : w1.cell? ⟨w.heap.size, 3, none⟩ = some (.slice aS3 PS.f3.length cS3) := kS.at rfl
  go_wp2_with fail
  go_at_call 25
  refine Calls.mono (gsz_State (lo := 0) (hi := w.heap.size) PS fS1 fS2 fS3 hB1.size L1 gl1 ml1) ?_
  rintro e w2 ⟨rfl, hb2⟩
  have hs2 : w1.heap.size ≤ w2.heap.size := hb2.size
  have fL := fL.below hb2
  have fS1 := fS1.below hb2
  have fS2 := fS2.below hb2
  have fS3 := fS3.below hb2
  have kS := kS.below hb2
  have hB2 := hB1.trans (hb2.mono hB1.size)
  clear hb2
  have hl2 := left_cases L1 (room (ints PS.f1) + room (ints PS.f2) + room (ints PS.f3)) gl1
  obtain ⟨L2, hL2⟩ : ∃ L, left L1 (room (ints PS.f1) + room (ints PS.f2) + room (ints PS.f3)) = L := ⟨_, rfl⟩
  rw [hL2] at hl2 ⊢
  rcases hl2 with ⟨rfl, hl2⟩ | ⟨hl2, gl2⟩
  · go_wp2
    go_ret
    exact ⟨rfl, hB2⟩
  have dl2 : decide (L2 < 0) = false := by simp; omega
  have ml2 : L2 ≤ 1048576 := by omega
  have rmS1 : room (ints PS.f1) ≤ 1048576 := by omega
  have rmS2 : room (ints PS.f2) ≤ 1048576 := by omega
  have rmS3 : room (ints PS.f3) ≤ 1048576 := by omega
  clear hl2 hL2
  have lL16 : lL.length ≤ 1048576 := by have h0 : room (dOp lL) = lL.length + _ := rfl; omega
  have mS1 : PS.f1.length ≤ 1048576 := by have h0 := rmS1; rw [room_ints] at h0; exact h0
  have mS2 : PS.f2.length ≤ 1048576 := by have h0 := rmS2; rw [room_ints] at h0; exact h0
  have mS3 : PS.f3.length ≤ 1048576 := by have h0 := rmS3; rw [room_ints] at h0; exact h0
  obtain ⟨R, hR⟩ : ∃ R : TWant, wantOf lL PS = R := ⟨_, rfl⟩
  have hS : ∀ (W : World) (loL hiL : Nat) (aL : Option Addr) (cL : Nat) (loS1 hiS1 : Nat) (aS1 : Option Addr) (cS1 : Nat) (loS2 hiS2 : Nat) (aS2 : Option Addr) (cS2 : Nat) (loS3 hiS3 : Nat) (aS3 : Option Addr) (cS3 : Nat), Lies loL hiL W (dOp lL) (.slice aL lL.length cL) → hiL ≤ W.heap.size → Lies loS1 hiS1 W (ints PS.f1) (.slice aS1 PS.f1.length cS1) → hiS1 ≤ W.heap.size → Lies loS2 hiS2 W (ints PS.f2) (.slice aS2 PS.f2.length cS2) → hiS2 ≤ W.heap.size → Lies loS3 hiS3 W (ints PS.f3) (.slice aS3 PS.f3.length cS3) → hiS3 ≤ W.heap.size → Calls Try.prog 29 #[.slice aL lL.length cL, (Value.agg #[.int .i64 PS.f0, .slice aS1 PS.f1.length cS1, .slice aS2 PS.f2.length cS2, .slice aS3 PS.f3.length cS3])] W (fun e w' => e = .returned (Value.agg #[.int .i64 R.f0, .int .i64 R.f1.f0, .int .i64 R.f1.f1, .int .i64 R.f1.f2]) ∧ Below W.heap.size W w') := by
    intro W loL hiL aL cL loS1 hiS1 aS1 cS1 loS2 hiS2 aS2 cS2 loS3 hiS3 aS3 cS3 hL sL hS1 sS1 hS2 sS2 hS3 sS3
    rw [← hR]
    exact want_spec loL hiL W aL cL lL hL sL lL16 PS aS1 cS1 aS2 cS2 aS3 cS3 (St.of hS1 hS2 hS3 sS1 sS2 sS3) mS1 mS2 mS3
  have hI : ∀ (W : World) (loL hiL : Nat) (aL : Option Addr) (cL : Nat) (loS1 hiS1 : Nat) (aS1 : Option Addr) (cS1 : Nat) (loS2 hiS2 : Nat) (aS2 : Option Addr) (cS2 : Nat) (loS3 hiS3 : Nat) (aS3 : Option Addr) (cS3 : Nat), Lies loL hiL W (dOp lL) (.slice aL lL.length cL) → hiL ≤ W.heap.size → Lies loS1 hiS1 W (ints PS.f1) (.slice aS1 PS.f1.length cS1) → hiS1 ≤ W.heap.size → Lies loS2 hiS2 W (ints PS.f2) (.slice aS2 PS.f2.length cS2) → hiS2 ≤ W.heap.size → Lies loS3 hiS3 W (ints PS.f3) (.slice aS3 PS.f3.length cS3) → hiS3 ≤ W.heap.size → Calls Try.prog 13 #[.slice aL lL.length cL, (Value.agg #[.int .i64 PS.f0, .slice aS1 PS.f1.length cS1, .slice aS2 PS.f2.length cS2, .slice aS3 PS.f3.length cS3])] W (fun e w' => e = .returned (Value.agg #[.int .i64 R.f0, .int .i64 R.f1.f0, .int .i64 R.f1.f1, .int .i64 R.f1.f2]) ∧ Below W.heap.size W w') := by
    intro W loL hiL aL cL loS1 hiS1 aS1 cS1 loS2 hiS2 aS2 cS2 loS3 hiS3 aS3 cS3 hL sL hS1 sS1 hS2 sS2 hS3 sS3
    rw [← hR]
    exact implC.want loL hiL W aL cL lL hL sL lL16 PS aS1 cS1 aS2 cS2 aS3 cS3 (St.of hS1 hS2 hS3 sS1 sS2 sS3) mS1 mS2 mS3
  clear hR
  go_upto_region 8 with fail
  go_cut [6] (fun s0 wx => ∃ (V : World) (bR : Nat), V = wx ∧ s0 = .pointer (some ⟨bR, 0, none⟩) ∧ Blk 34 bR [Value.int .i64 R.f0, .int .i64 R.f1.f0, .int .i64 R.f1.f1, .int .i64 R.f1.f2] V ∧ (w.heap.size + 1 ≤ bR) ∧ bR < V.heap.size ∧ (w2.heap.size ≤ bR) ∧ Below w2.heap.size w2 V)
  case first =>
    have hq0 : w.heap.size ≤ w2.heap.size := hB2.size
    have hW0 : Below w2.heap.size w2 w2 := Below.refl _ _
    have ee0 : Below w2.heap.size w2 w2 := Below.refl _ _
    have ed0 : Below w2.heap.size w2 w2.drew := (Below.refl _ _).drew
    have ea0 : Below w2.heap.size w2 (w2.alloc (.cells #[Value.int .i64 0, .int .i64 0, .int .i64 0, .int .i64 0] 34)).drew := ((Below.refl _ _).alloc (Nat.le_refl _) _).drew
    have s3 : w2.drew.cell? ⟨w.heap.size, 0, none⟩ = some (.int .i64 PS.f0) ∧ w2.drew.cell? ⟨w.heap.size, 1, none⟩ = some (.slice aS1 PS.f1.length cS1) ∧ w2.drew.cell? ⟨w.heap.size, 2, none⟩ = some (.slice aS2 PS.f2.length cS2) ∧ w2.drew.cell? ⟨w.heap.size, 3, none⟩ = some (.slice aS3 PS.f3.length cS3) := ⟨(Blk.drew kS).at rfl, (Blk.drew kS).at rfl, (Blk.drew kS).at rfl, (Blk.drew kS).at rfl⟩
    have t3 : (w2.alloc (.cells #[Value.int .i64 0, .int .i64 0, .int .i64 0, .int .i64 0] 34)).drew.cell? ⟨w.heap.size, 0, none⟩ = some (.int .i64 PS.f0) ∧ (w2.alloc (.cells #[Value.int .i64 0, .int .i64 0, .int .i64 0, .int .i64 0] 34)).drew.cell? ⟨w.heap.size, 1, none⟩ = some (.slice aS1 PS.f1.length cS1) ∧ (w2.alloc (.cells #[Value.int .i64 0, .int .i64 0, .int .i64 0, .int .i64 0] 34)).drew.cell? ⟨w.heap.size, 2, none⟩ = some (.slice aS2 PS.f2.length cS2) ∧ (w2.alloc (.cells #[Value.int .i64 0, .int .i64 0, .int .i64 0, .int .i64 0] 34)).drew.cell? ⟨w.heap.size, 3, none⟩ = some (.slice aS3 PS.f3.length cS3) := ⟨(Blk.drew (Blk.alloc kS _)).at rfl, (Blk.drew (Blk.alloc kS _)).at rfl, (Blk.drew (Blk.alloc kS _)).at rfl, (Blk.drew (Blk.alloc kS _)).at rfl⟩
    go_wp2_with fail
    go_region_held3 (fun w' => w'.cell? ⟨w.heap.size, 0, none⟩ = some (.int .i64 PS.f0) ∧ w'.cell? ⟨w.heap.size, 1, none⟩ = some (.slice aS1 PS.f1.length cS1) ∧ w'.cell? ⟨w.heap.size, 2, none⟩ = some (.slice aS2 PS.f2.length cS2) ∧ w'.cell? ⟨w.heap.size, 3, none⟩ = some (.slice aS3 PS.f3.length cS3))
      (first | (with_reducible exact s3) | (with_reducible exact t3) | (with_reducible exact t4) | (with_reducible exact v3) | go_keep)
      (first
      | (go_at_call 30; refine Calls.mono (gto_OpS (lo := 0) (hi := w.heap.size) (fL.below (w := w2) (by first | (with_reducible exact ee0) | (with_reducible exact ed0) | (with_reducible exact ea0))) (Nat.le_trans hq0 (Below.size (B := w2.heap.size) (w := w2) (by first | (with_reducible exact ee0) | (with_reducible exact ed0) | (with_reducible exact ea0)))) (by omega)) ?_; rintro e u1 ⟨v1, rfl, ho, hb⟩; have hx1 := hb; have hv1 : Below w2.heap.size w2 u1 := Below.trans (show Below w2.heap.size w2 _ from (by first | (with_reducible exact ee0) | (with_reducible exact ed0) | (with_reducible exact ea0))) (hb.mono (Below.size (B := w2.heap.size) (w := w2) (by first | (with_reducible exact ee0) | (with_reducible exact ed0) | (with_reducible exact ea0)))); have fL := fL.below hv1; have fS1 := fS1.below hv1; have fS2 := fS2.below hv1; have fS3 := fS3.below hv1; have kS := kS.below hv1; obtain ⟨XL, YL, rfl, _⟩ : ∃ a c, v1 = .slice a lL.length c ∧ True := (by obtain ⟨a, c, q, _⟩ := ho; exact ⟨a, c, q, trivial⟩); have qL := Owns.lies (lo := 0) (hi := u1.heap.size) ho (fun t h => ⟨Nat.zero_le _, h.2⟩); clear ho; have hq1 := Nat.le_trans hq0 hv1.size; have hz1 := hv1.size; have ee1 : Below u1.heap.size u1 u1 := Below.refl _ _; have ed1 := ee1; have ea1 : Below u1.heap.size u1 (u1.alloc (.cells #[Value.int .i64 0, .int .i64 0, .int .i64 0, .int .i64 0] 34)) := (Below.refl _ _).alloc (Nat.le_refl _) _; have hW1 := hW0.trans (hv1.mono hW0.size); have s3 : u1.cell? ⟨w.heap.size, 0, none⟩ = some (.int .i64 PS.f0) ∧ u1.cell? ⟨w.heap.size, 1, none⟩ = some (.slice aS1 PS.f1.length cS1) ∧ u1.cell? ⟨w.heap.size, 2, none⟩ = some (.slice aS2 PS.f2.length cS2) ∧ u1.cell? ⟨w.heap.size, 3, none⟩ = some (.slice aS3 PS.f3.length cS3) := ⟨(kS).at rfl, (kS).at rfl, (kS).at rfl, (kS).at rfl⟩; clear hb; have t3 : (u1.alloc (.cells #[Value.int .i64 0, .int .i64 0, .int .i64 0, .int .i64 0] 34)).cell? ⟨w.heap.size, 0, none⟩ = some (.int .i64 PS.f0) ∧ (u1.alloc (.cells #[Value.int .i64 0, .int .i64 0, .int .i64 0, .int .i64 0] 34)).cell? ⟨w.heap.size, 1, none⟩ = some (.slice aS1 PS.f1.length cS1) ∧ (u1.alloc (.cells #[Value.int .i64 0, .int .i64 0, .int .i64 0, .int .i64 0] 34)).cell? ⟨w.heap.size, 2, none⟩ = some (.slice aS2 PS.f2.length cS2) ∧ (u1.alloc (.cells #[Value.int .i64 0, .int .i64 0, .int .i64 0, .int .i64 0] 34)).cell? ⟨w.heap.size, 3, none⟩ = some (.slice aS3 PS.f3.length cS3) := ⟨(Blk.alloc kS _).at rfl, (Blk.alloc kS _).at rfl, (Blk.alloc kS _).at rfl, (Blk.alloc kS _).at rfl⟩)
      | (go_at_call 27; refine Calls.mono (gto_State (lo := 0) (hi := w.heap.size) PS (fS1.below (w := u1) (by first | (with_reducible exact ee1) | (with_reducible exact ed1) | (with_reducible exact ea1))) (fS2.below (w := u1) (by first | (with_reducible exact ee1) | (with_reducible exact ed1) | (with_reducible exact ea1))) (fS3.below (w := u1) (by first | (with_reducible exact ee1) | (with_reducible exact ed1) | (with_reducible exact ea1))) (Nat.le_trans hq1 (Below.size (B := u1.heap.size) (w := u1) (by first | (with_reducible exact ee1) | (with_reducible exact ed1) | (with_reducible exact ea1)))) (by omega) (by omega) (by omega)) ?_; rintro e u2 ⟨XS1, YS1, XS2, YS2, XS3, YS3, mS1, mS2, rfl, ho1, ho2, ho3, onS0, onS1, onS2, hb⟩; have hx2 := hb; have hv2 : Below u1.heap.size u1 u2 := Below.trans (show Below u1.heap.size u1 _ from (by first | (with_reducible exact ee1) | (with_reducible exact ed1) | (with_reducible exact ea1))) (hb.mono (Below.size (B := u1.heap.size) (w := u1) (by first | (with_reducible exact ee1) | (with_reducible exact ed1) | (with_reducible exact ea1)))); have qL := Lies.below qL hv2; have fL := fL.below hv2; have fS1 := fS1.below hv2; have fS2 := fS2.below hv2; have fS3 := fS3.below hv2; have kS := kS.below hv2; have qS1 := Owns.lies (lo := 0) (hi := u2.heap.size) ho1 (fun t h => ⟨Nat.zero_le _, by have := h.2; omega⟩); have qS2 := Owns.lies (lo := 0) (hi := u2.heap.size) ho2 (fun t h => ⟨Nat.zero_le _, by have := h.2; omega⟩); have qS3 := Owns.lies (lo := 0) (hi := u2.heap.size) ho3 (fun t h => ⟨Nat.zero_le _, by have := h.2; omega⟩); clear ho1 ho2 ho3 onS0 onS1 onS2; have hq2 := Nat.le_trans hq1 hv2.size; have hz2 := hv2.size; have ee2 : Below u2.heap.size u2 u2 := Below.refl _ _; have ed2 := ee2; have ea2 : Below u2.heap.size u2 (u2.alloc (.cells #[Value.int .i64 0, .int .i64 0, .int .i64 0, .int .i64 0] 34)) := (Below.refl _ _).alloc (Nat.le_refl _) _; have hW2 := hW1.trans (hv2.mono hW1.size); have s3 : u2.cell? ⟨w.heap.size, 0, none⟩ = some (.int .i64 PS.f0) ∧ u2.cell? ⟨w.heap.size, 1, none⟩ = some (.slice aS1 PS.f1.length cS1) ∧ u2.cell? ⟨w.heap.size, 2, none⟩ = some (.slice aS2 PS.f2.length cS2) ∧ u2.cell? ⟨w.heap.size, 3, none⟩ = some (.slice aS3 PS.f3.length cS3) := ⟨(kS).at rfl, (kS).at rfl, (kS).at rfl, (kS).at rfl⟩; clear hb; have t3 : (u2.alloc (.cells #[Value.int .i64 0, .int .i64 0, .int .i64 0, .int .i64 0] 34)).cell? ⟨w.heap.size, 0, none⟩ = some (.int .i64 PS.f0) ∧ (u2.alloc (.cells #[Value.int .i64 0, .int .i64 0, .int .i64 0, .int .i64 0] 34)).cell? ⟨w.heap.size, 1, none⟩ = some (.slice aS1 PS.f1.length cS1) ∧ (u2.alloc (.cells #[Value.int .i64 0, .int .i64 0, .int .i64 0, .int .i64 0] 34)).cell? ⟨w.heap.size, 2, none⟩ = some (.slice aS2 PS.f2.length cS2) ∧ (u2.alloc (.cells #[Value.int .i64 0, .int .i64 0, .int .i64 0, .int .i64 0] 34)).cell? ⟨w.heap.size, 3, none⟩ = some (.slice aS3 PS.f3.length cS3) := ⟨(Blk.alloc kS _).at rfl, (Blk.alloc kS _).at rfl, (Blk.alloc kS _).at rfl, (Blk.alloc kS _).at rfl⟩)
      | (go_at_call 29; refine Calls.mono (hS _ _ _ _ _ _ _ _ _ _ _ _ _ _ _ _ _ (Lies.below (w := u2) qL (by first | (with_reducible exact ee2) | (with_reducible exact ed2) | (with_reducible exact ea2))) (Nat.le_trans (by omega) (Below.size (B := u2.heap.size) (w := u2) (by first | (with_reducible exact ee2) | (with_reducible exact ed2) | (with_reducible exact ea2)))) (Lies.below (w := u2) qS1 (by first | (with_reducible exact ee2) | (with_reducible exact ed2) | (with_reducible exact ea2))) (Nat.le_trans (by omega) (Below.size (B := u2.heap.size) (w := u2) (by first | (with_reducible exact ee2) | (with_reducible exact ed2) | (with_reducible exact ea2)))) (Lies.below (w := u2) qS2 (by first | (with_reducible exact ee2) | (with_reducible exact ed2) | (with_reducible exact ea2))) (Nat.le_trans (by omega) (Below.size (B := u2.heap.size) (w := u2) (by first | (with_reducible exact ee2) | (with_reducible exact ed2) | (with_reducible exact ea2)))) (Lies.below (w := u2) qS3 (by first | (with_reducible exact ee2) | (with_reducible exact ed2) | (with_reducible exact ea2))) (Nat.le_trans (by omega) (Below.size (B := u2.heap.size) (w := u2) (by first | (with_reducible exact ee2) | (with_reducible exact ed2) | (with_reducible exact ea2))))) ?_; rintro e u3 ⟨rfl, hb⟩; have hx3 := hb; have hv3 : Below u2.heap.size u2 u3 := Below.trans (show Below u2.heap.size u2 _ from (by first | (with_reducible exact ee2) | (with_reducible exact ed2) | (with_reducible exact ea2))) (hb.mono (Below.size (B := u2.heap.size) (w := u2) (by first | (with_reducible exact ee2) | (with_reducible exact ed2) | (with_reducible exact ea2)))); have qL := Lies.below qL hv3; have qS1 := Lies.below qS1 hv3; have qS2 := Lies.below qS2 hv3; have qS3 := Lies.below qS3 hv3; have fL := fL.below hv3; have fS1 := fS1.below hv3; have fS2 := fS2.below hv3; have fS3 := fS3.below hv3; have kS := kS.below hv3; have hq3 := Nat.le_trans hq2 hv3.size; have hz3 := hv3.size; have ee3 : Below u3.heap.size u3 u3 := Below.refl _ _; have ed3 := ee3; have ea3 : Below u3.heap.size u3 (u3.alloc (.cells #[Value.int .i64 0, .int .i64 0, .int .i64 0, .int .i64 0] 34)) := (Below.refl _ _).alloc (Nat.le_refl _) _; have hW3 := hW2.trans (hv3.mono hW2.size); have s3 : u3.cell? ⟨w.heap.size, 0, none⟩ = some (.int .i64 PS.f0) ∧ u3.cell? ⟨w.heap.size, 1, none⟩ = some (.slice aS1 PS.f1.length cS1) ∧ u3.cell? ⟨w.heap.size, 2, none⟩ = some (.slice aS2 PS.f2.length cS2) ∧ u3.cell? ⟨w.heap.size, 3, none⟩ = some (.slice aS3 PS.f3.length cS3) := ⟨(kS).at rfl, (kS).at rfl, (kS).at rfl, (kS).at rfl⟩; clear hb; have t4 : (u3.alloc (.cells #[Value.int .i64 R.f0, .int .i64 R.f1.f0, .int .i64 R.f1.f1, .int .i64 R.f1.f2] 34)).cell? ⟨w.heap.size, 0, none⟩ = some (.int .i64 PS.f0) ∧ (u3.alloc (.cells #[Value.int .i64 R.f0, .int .i64 R.f1.f0, .int .i64 R.f1.f1, .int .i64 R.f1.f2] 34)).cell? ⟨w.heap.size, 1, none⟩ = some (.slice aS1 PS.f1.length cS1) ∧ (u3.alloc (.cells #[Value.int .i64 R.f0, .int .i64 R.f1.f0, .int .i64 R.f1.f1, .int .i64 R.f1.f2] 34)).cell? ⟨w.heap.size, 2, none⟩ = some (.slice aS2 PS.f2.length cS2) ∧ (u3.alloc (.cells #[Value.int .i64 R.f0, .int .i64 R.f1.f0, .int .i64 R.f1.f1, .int .i64 R.f1.f2] 34)).cell? ⟨w.heap.size, 3, none⟩ = some (.slice aS3 PS.f3.length cS3) := ⟨(Blk.alloc kS _).at rfl, (Blk.alloc kS _).at rfl, (Blk.alloc kS _).at rfl, (Blk.alloc kS _).at rfl⟩; (first | ((with_reducible have qb := ((((Blk.drew (Blk.new 34 [Value.int .i64 0, .int .i64 0, .int .i64 0, .int .i64 0] w2)).below hx1).below hx2).below hx3)); (with_reducible have lb := Blk.lt (((Blk.drew (Blk.new 34 [Value.int .i64 0, .int .i64 0, .int .i64 0, .int .i64 0] w2)).below hx1).below hx2)); (try simp only [gsize_alloc] at lb); (try simp only [gsize_drew] at lb); have o0 := qb.at (x := 0) rfl; have o'0 := qb.free 0; have o1 := qb.at (x := 1) rfl; have o'1 := qb.free 1; have o2 := qb.at (x := 2) rfl; have o'2 := qb.free 2; have o3 := qb.at (x := 3) rfl; have o'3 := qb.free 3; have KkS := ((((kS.other (a := ⟨w2.heap.size, 0, none⟩) (.int .i64 R.f0) (by dsimp only; omega)).other (a := ⟨w2.heap.size, 1, none⟩) (.int .i64 R.f1.f0) (by dsimp only; omega)).other (a := ⟨w2.heap.size, 2, none⟩) (.int .i64 R.f1.f1) (by dsimp only; omega)).other (a := ⟨w2.heap.size, 3, none⟩) (.int .i64 R.f1.f2) (by dsimp only; omega)); have v3 : ((((u3.setCell ⟨w2.heap.size, 0, none⟩ (.int .i64 R.f0)).setCell ⟨w2.heap.size, 1, none⟩ (.int .i64 R.f1.f0)).setCell ⟨w2.heap.size, 2, none⟩ (.int .i64 R.f1.f1)).setCell ⟨w2.heap.size, 3, none⟩ (.int .i64 R.f1.f2)).cell? ⟨w.heap.size, 0, none⟩ = some (.int .i64 PS.f0) ∧ ((((u3.setCell ⟨w2.heap.size, 0, none⟩ (.int .i64 R.f0)).setCell ⟨w2.heap.size, 1, none⟩ (.int .i64 R.f1.f0)).setCell ⟨w2.heap.size, 2, none⟩ (.int .i64 R.f1.f1)).setCell ⟨w2.heap.size, 3, none⟩ (.int .i64 R.f1.f2)).cell? ⟨w.heap.size, 1, none⟩ = some (.slice aS1 PS.f1.length cS1) ∧ ((((u3.setCell ⟨w2.heap.size, 0, none⟩ (.int .i64 R.f0)).setCell ⟨w2.heap.size, 1, none⟩ (.int .i64 R.f1.f0)).setCell ⟨w2.heap.size, 2, none⟩ (.int .i64 R.f1.f1)).setCell ⟨w2.heap.size, 3, none⟩ (.int .i64 R.f1.f2)).cell? ⟨w.heap.size, 2, none⟩ = some (.slice aS2 PS.f2.length cS2) ∧ ((((u3.setCell ⟨w2.heap.size, 0, none⟩ (.int .i64 R.f0)).setCell ⟨w2.heap.size, 1, none⟩ (.int .i64 R.f1.f0)).setCell ⟨w2.heap.size, 2, none⟩ (.int .i64 R.f1.f1)).setCell ⟨w2.heap.size, 3, none⟩ (.int .i64 R.f1.f2)).cell? ⟨w.heap.size, 3, none⟩ = some (.slice aS3 PS.f3.length cS3) := ⟨KkS.at rfl, KkS.at rfl, KkS.at rfl, KkS.at rfl⟩) | ((with_reducible have qb := (((Blk.new 34 [Value.int .i64 0, .int .i64 0, .int .i64 0, .int .i64 0] u1).below hx2).below hx3)); (with_reducible have lb := Blk.lt ((Blk.new 34 [Value.int .i64 0, .int .i64 0, .int .i64 0, .int .i64 0] u1).below hx2)); (try simp only [gsize_alloc] at lb); (try simp only [gsize_drew] at lb); have o0 := qb.at (x := 0) rfl; have o'0 := qb.free 0; have o1 := qb.at (x := 1) rfl; have o'1 := qb.free 1; have o2 := qb.at (x := 2) rfl; have o'2 := qb.free 2; have o3 := qb.at (x := 3) rfl; have o'3 := qb.free 3; have KkS := ((((kS.other (a := ⟨u1.heap.size, 0, none⟩) (.int .i64 R.f0) (by dsimp only; omega)).other (a := ⟨u1.heap.size, 1, none⟩) (.int .i64 R.f1.f0) (by dsimp only; omega)).other (a := ⟨u1.heap.size, 2, none⟩) (.int .i64 R.f1.f1) (by dsimp only; omega)).other (a := ⟨u1.heap.size, 3, none⟩) (.int .i64 R.f1.f2) (by dsimp only; omega)); have v3 : ((((u3.setCell ⟨u1.heap.size, 0, none⟩ (.int .i64 R.f0)).setCell ⟨u1.heap.size, 1, none⟩ (.int .i64 R.f1.f0)).setCell ⟨u1.heap.size, 2, none⟩ (.int .i64 R.f1.f1)).setCell ⟨u1.heap.size, 3, none⟩ (.int .i64 R.f1.f2)).cell? ⟨w.heap.size, 0, none⟩ = some (.int .i64 PS.f0) ∧ ((((u3.setCell ⟨u1.heap.size, 0, none⟩ (.int .i64 R.f0)).setCell ⟨u1.heap.size, 1, none⟩ (.int .i64 R.f1.f0)).setCell ⟨u1.heap.size, 2, none⟩ (.int .i64 R.f1.f1)).setCell ⟨u1.heap.size, 3, none⟩ (.int .i64 R.f1.f2)).cell? ⟨w.heap.size, 1, none⟩ = some (.slice aS1 PS.f1.length cS1) ∧ ((((u3.setCell ⟨u1.heap.size, 0, none⟩ (.int .i64 R.f0)).setCell ⟨u1.heap.size, 1, none⟩ (.int .i64 R.f1.f0)).setCell ⟨u1.heap.size, 2, none⟩ (.int .i64 R.f1.f1)).setCell ⟨u1.heap.size, 3, none⟩ (.int .i64 R.f1.f2)).cell? ⟨w.heap.size, 2, none⟩ = some (.slice aS2 PS.f2.length cS2) ∧ ((((u3.setCell ⟨u1.heap.size, 0, none⟩ (.int .i64 R.f0)).setCell ⟨u1.heap.size, 1, none⟩ (.int .i64 R.f1.f0)).setCell ⟨u1.heap.size, 2, none⟩ (.int .i64 R.f1.f1)).setCell ⟨u1.heap.size, 3, none⟩ (.int .i64 R.f1.f2)).cell? ⟨w.heap.size, 3, none⟩ = some (.slice aS3 PS.f3.length cS3) := ⟨KkS.at rfl, KkS.at rfl, KkS.at rfl, KkS.at rfl⟩) | ((with_reducible have qb := ((Blk.new 34 [Value.int .i64 0, .int .i64 0, .int .i64 0, .int .i64 0] u2).below hx3)); (with_reducible have lb := Blk.lt (Blk.new 34 [Value.int .i64 0, .int .i64 0, .int .i64 0, .int .i64 0] u2)); (try simp only [gsize_alloc] at lb); (try simp only [gsize_drew] at lb); have o0 := qb.at (x := 0) rfl; have o'0 := qb.free 0; have o1 := qb.at (x := 1) rfl; have o'1 := qb.free 1; have o2 := qb.at (x := 2) rfl; have o'2 := qb.free 2; have o3 := qb.at (x := 3) rfl; have o'3 := qb.free 3; have KkS := ((((kS.other (a := ⟨u2.heap.size, 0, none⟩) (.int .i64 R.f0) (by dsimp only; omega)).other (a := ⟨u2.heap.size, 1, none⟩) (.int .i64 R.f1.f0) (by dsimp only; omega)).other (a := ⟨u2.heap.size, 2, none⟩) (.int .i64 R.f1.f1) (by dsimp only; omega)).other (a := ⟨u2.heap.size, 3, none⟩) (.int .i64 R.f1.f2) (by dsimp only; omega)); have v3 : ((((u3.setCell ⟨u2.heap.size, 0, none⟩ (.int .i64 R.f0)).setCell ⟨u2.heap.size, 1, none⟩ (.int .i64 R.f1.f0)).setCell ⟨u2.heap.size, 2, none⟩ (.int .i64 R.f1.f1)).setCell ⟨u2.heap.size, 3, none⟩ (.int .i64 R.f1.f2)).cell? ⟨w.heap.size, 0, none⟩ = some (.int .i64 PS.f0) ∧ ((((u3.setCell ⟨u2.heap.size, 0, none⟩ (.int .i64 R.f0)).setCell ⟨u2.heap.size, 1, none⟩ (.int .i64 R.f1.f0)).setCell ⟨u2.heap.size, 2, none⟩ (.int .i64 R.f1.f1)).setCell ⟨u2.heap.size, 3, none⟩ (.int .i64 R.f1.f2)).cell? ⟨w.heap.size, 1, none⟩ = some (.slice aS1 PS.f1.length cS1) ∧ ((((u3.setCell ⟨u2.heap.size, 0, none⟩ (.int .i64 R.f0)).setCell ⟨u2.heap.size, 1, none⟩ (.int .i64 R.f1.f0)).setCell ⟨u2.heap.size, 2, none⟩ (.int .i64 R.f1.f1)).setCell ⟨u2.heap.size, 3, none⟩ (.int .i64 R.f1.f2)).cell? ⟨w.heap.size, 2, none⟩ = some (.slice aS2 PS.f2.length cS2) ∧ ((((u3.setCell ⟨u2.heap.size, 0, none⟩ (.int .i64 R.f0)).setCell ⟨u2.heap.size, 1, none⟩ (.int .i64 R.f1.f0)).setCell ⟨u2.heap.size, 2, none⟩ (.int .i64 R.f1.f1)).setCell ⟨u2.heap.size, 3, none⟩ (.int .i64 R.f1.f2)).cell? ⟨w.heap.size, 3, none⟩ = some (.slice aS3 PS.f3.length cS3) := ⟨KkS.at rfl, KkS.at rfl, KkS.at rfl, KkS.at rfl⟩) | skip); have t3 : (u3.alloc (.cells #[Value.int .i64 0, .int .i64 0, .int .i64 0, .int .i64 0] 34)).cell? ⟨w.heap.size, 0, none⟩ = some (.int .i64 PS.f0) ∧ (u3.alloc (.cells #[Value.int .i64 0, .int .i64 0, .int .i64 0, .int .i64 0] 34)).cell? ⟨w.heap.size, 1, none⟩ = some (.slice aS1 PS.f1.length cS1) ∧ (u3.alloc (.cells #[Value.int .i64 0, .int .i64 0, .int .i64 0, .int .i64 0] 34)).cell? ⟨w.heap.size, 2, none⟩ = some (.slice aS2 PS.f2.length cS2) ∧ (u3.alloc (.cells #[Value.int .i64 0, .int .i64 0, .int .i64 0, .int .i64 0] 34)).cell? ⟨w.heap.size, 3, none⟩ = some (.slice aS3 PS.f3.length cS3) := ⟨(Blk.alloc kS _).at rfl, (Blk.alloc kS _).at rfl, (Blk.alloc kS _).at rfl, (Blk.alloc kS _).at rfl⟩)
      )
    all_goals
      go_wp2_with fail
      go_meet
      case rel =>
        first
        | exact ⟨_, _, rfl, rfl, ((((qb.set 0 (.int .i64 R.f0)).set 1 (.int .i64 R.f1.f0)).set 2 (.int .i64 R.f1.f1)).set 3 (.int .i64 R.f1.f2)), (by (try simp only [gsize_drew]); omega), (by simp only [gsize_set]; exact qb.lt), (by (try simp only [gsize_drew]); omega), (by (iterate 4 (refine Below.setCell ?_ (by (try dsimp only); (try simp only [gsize_drew]); omega) _)); exact hW3)⟩
        | exact ⟨_, _, rfl, rfl, Blk.new _ [Value.int .i64 R.f0, .int .i64 R.f1.f0, .int .i64 R.f1.f1, .int .i64 R.f1.f2] u3, (by omega), (by rw [gsize_alloc]; omega), (by omega), (Below.alloc hW3 hW3.size _)⟩
  case rest =>
  obtain ⟨w3, bWR, rfl, rfl, BWR, lbWR, ubWR, mbWR, hb3⟩ := hcut
  have hs3 : w2.heap.size ≤ w3.heap.size := hb3.size
  have fL := fL.below hb3
  have fS1 := fS1.below hb3
  have fS2 := fS2.below hb3
  have fS3 := fS3.below hb3
  have kS := kS.below hb3
  have hB3 := hB2.trans (hb3.mono hB2.size)
  clear hb3
  go_wp2_with fail
  go_at_call 30
  refine Calls.mono (gto_OpS (lo := 0) (hi := w.heap.size) fL hB3.size (by omega)) ?_
  rintro e w4 ⟨v4, rfl, ho4, hb4⟩
  obtain ⟨xxL, yxL, rfl, _⟩ : ∃ a c, v4 = .slice a lL.length c ∧ True := by obtain ⟨a, c, q, _⟩ := ho4; exact ⟨a, c, q, trivial⟩
  have hs4 : w3.heap.size ≤ w4.heap.size := hb4.size
  have fL := fL.below hb4
  have fS1 := fS1.below hb4
  have fS2 := fS2.below hb4
  have fS3 := fS3.below hb4
  have kS := kS.below hb4
  have BWR := BWR.below hb4
  have hB4 := hB3.trans (hb4.mono hB3.size)
  clear hb4
  have gxL := ho4
  clear ho4
  have ugxL : ∀ t, Span w3.heap.size w4.heap.size t → w3.heap.size ≤ t ∧ t < w4.heap.size := fun t h => h
  go_upto_region 10 with fail
  go_cut [8] (fun s0 wx => ∃ (V : World) (bS : Nat) (xS1 : Option Addr) (yS1 : Nat) (SS1 : Nat → Prop) (xS2 : Option Addr) (yS2 : Nat) (SS2 : Nat → Prop) (xS3 : Option Addr) (yS3 : Nat) (SS3 : Nat → Prop), V = wx ∧ s0 = .pointer (some ⟨bS, 0, none⟩) ∧ Blk 27 bS [Value.int .i64 PS.f0, .slice xS1 PS.f1.length yS1, .slice xS2 PS.f2.length yS2, .slice xS3 PS.f3.length yS3] V ∧ (w.heap.size + 1 ≤ bS) ∧ bS < V.heap.size ∧ (w4.heap.size ≤ bS) ∧ Owns V (ints PS.f1) (.slice xS1 PS.f1.length yS1) SS1 ∧ Owns V (ints PS.f2) (.slice xS2 PS.f2.length yS2) SS2 ∧ Owns V (ints PS.f3) (.slice xS3 PS.f3.length yS3) SS3 ∧ (∀ t, SS1 t → w4.heap.size ≤ t ∧ t < V.heap.size) ∧ (∀ t, SS2 t → w4.heap.size ≤ t ∧ t < V.heap.size) ∧ (∀ t, SS3 t → w4.heap.size ≤ t ∧ t < V.heap.size) ∧ (∀ t, SS1 t → ¬ SS2 t) ∧ (∀ t, SS1 t → ¬ SS3 t) ∧ (∀ t, SS2 t → ¬ SS3 t) ∧ ¬ SS1 bS ∧ ¬ SS2 bS ∧ ¬ SS3 bS ∧ Below w4.heap.size w4 V)
  case first =>
    have cbS0 : w4.cell? ⟨w.heap.size, 0, none⟩ = some (.int .i64 PS.f0) := kS.at rfl
    have cbS1 : w4.cell? ⟨w.heap.size, 1, none⟩ = some (.slice aS1 PS.f1.length cS1) := kS.at rfl
    have cbS2 : w4.cell? ⟨w.heap.size, 2, none⟩ = some (.slice aS2 PS.f2.length cS2) := kS.at rfl
    have cbS3 : w4.cell? ⟨w.heap.size, 3, none⟩ = some (.slice aS3 PS.f3.length cS3) := kS.at rfl
    go_wp2_with fail
    go_at_call 27
    refine Calls.mono (gto_State (lo := 0) (hi := w.heap.size) PS fS1 fS2 fS3 hB4.size (by omega) (by omega) (by omega)) ?_
    rintro e u1 ⟨x1, y1, x2, y2, x3, y3, m1, m2, rfl, ho1, ho2, ho3, oo0, oo1, oo2, hb⟩
    have hz := hb.size
    go_wp2_with fail
    go_meet
    case rel => exact ⟨_, _, _, _, Span (w4.heap.size) (m1), _, _, Span (m1) (m2), _, _, Span (m2) (u1.heap.size), rfl, rfl, Blk.new _ [Value.int .i64 PS.f0, .slice x1 PS.f1.length y1, .slice x2 PS.f2.length y2, .slice x3 PS.f3.length y3] u1, (by omega), (by rw [gsize_alloc]; omega), (by omega), (Owns.below ho1 ((Below.refl _ _).alloc (Nat.le_refl _) _)), (Owns.below ho2 ((Below.refl _ _).alloc (Nat.le_refl _) _)), (Owns.below ho3 ((Below.refl _ _).alloc (Nat.le_refl _) _)), (fun t h => ⟨by have := h.1; omega, by have := h.2; rw [gsize_alloc]; omega⟩), (fun t h => ⟨by have := h.1; omega, by have := h.2; rw [gsize_alloc]; omega⟩), (fun t h => ⟨by have := h.1; omega, by have := h.2; rw [gsize_alloc]; omega⟩), (fun t h h' => by have := h.2; have := h'.1; omega), (fun t h h' => by have := h.2; have := h'.1; omega), (fun t h h' => by have := h.2; have := h'.1; omega), (fun h => by have := h.2; omega), (fun h => by have := h.2; omega), (fun h => by have := h.2; omega), (hb.alloc hb.size _)⟩
  case rest =>
  obtain ⟨w5, bxS, xxS1, yxS1, SxS1, xxS2, yxS2, SxS2, xxS3, yxS3, SxS3, rfl, rfl, BxS, lbxS, ubxS, mbxS, rxS1, rxS2, rxS3, urxS1, urxS2, urxS3, udxS_0_1, udxS_0_2, udxS_1_2, nbxS1_S, nbxS2_S, nbxS3_S, hb5⟩ := hcut
  have hs5 : w4.heap.size ≤ w5.heap.size := hb5.size
  have fL := fL.below hb5
  have fS1 := fS1.below hb5
  have fS2 := fS2.below hb5
  have fS3 := fS3.below hb5
  have kS := kS.below hb5
  have gxL := Owns.below gxL hb5
  have BWR := BWR.below hb5
  have hB5 := hB4.trans (hb5.mono hB4.size)
  clear hb5
  go_upto_region 11 with fail
  go_cut [9] (fun s0 wx => ∃ (V : World) (bR : Nat), V = wx ∧ s0 = .pointer (some ⟨bR, 0, none⟩) ∧ Blk 34 bR [Value.int .i64 R.f0, .int .i64 R.f1.f0, .int .i64 R.f1.f1, .int .i64 R.f1.f2] V ∧ (w.heap.size + 1 ≤ bR) ∧ bR < V.heap.size ∧ (w5.heap.size ≤ bR) ∧ Below w5.heap.size w5 V)
  case first =>
    have hq0 : w.heap.size ≤ w5.heap.size := hB5.size
    have hW0 : Below w5.heap.size w5 w5 := Below.refl _ _
    have ee0 : Below w5.heap.size w5 w5 := Below.refl _ _
    have cxS0 : w5.cell? ⟨bxS, 0, none⟩ = some (.int .i64 PS.f0) := BxS.at rfl
    have cxS1 : w5.cell? ⟨bxS, 1, none⟩ = some (.slice xxS1 PS.f1.length yxS1) := BxS.at rfl
    have cxS2 : w5.cell? ⟨bxS, 2, none⟩ = some (.slice xxS2 PS.f2.length yxS2) := BxS.at rfl
    have cxS3 : w5.cell? ⟨bxS, 3, none⟩ = some (.slice xxS3 PS.f3.length yxS3) := BxS.at rfl
    go_wp2_with fail
    go_at_call 13
    refine Calls.mono (hI _ _ _ _ _ _ _ _ _ _ _ _ _ _ _ _ _ (Lies.below (w := w5) (Owns.lies gxL (hi := w5.heap.size) (lo := 0) (fun t h => ⟨Nat.zero_le _, by have := ugxL t h; omega⟩)) ee0) (Nat.le_trans (by omega) (Below.size (B := w5.heap.size) (w := w5) ee0)) (Lies.below (w := w5) (Owns.lies rxS1 (hi := w5.heap.size) (lo := 0) (fun t h => ⟨Nat.zero_le _, by have := urxS1 t h; omega⟩)) ee0) (Nat.le_trans (by omega) (Below.size (B := w5.heap.size) (w := w5) ee0)) (Lies.below (w := w5) (Owns.lies rxS2 (hi := w5.heap.size) (lo := 0) (fun t h => ⟨Nat.zero_le _, by have := urxS2 t h; omega⟩)) ee0) (Nat.le_trans (by omega) (Below.size (B := w5.heap.size) (w := w5) ee0)) (Lies.below (w := w5) (Owns.lies rxS3 (hi := w5.heap.size) (lo := 0) (fun t h => ⟨Nat.zero_le _, by have := urxS3 t h; omega⟩)) ee0) (Nat.le_trans (by omega) (Below.size (B := w5.heap.size) (w := w5) ee0))) ?_
    rintro e u1 ⟨rfl, hb⟩
    have hv1 : Below w5.heap.size w5 u1 := Below.trans (show Below w5.heap.size w5 _ from ee0) (hb.mono (Below.size (B := w5.heap.size) (w := w5) ee0))
    have fL := fL.below hv1
    have fS1 := fS1.below hv1
    have fS2 := fS2.below hv1
    have fS3 := fS3.below hv1
    have kS := kS.below hv1
    have BxS := BxS.below hv1
    have gxL := Owns.below gxL hv1
    have rxS1 := Owns.below rxS1 hv1
    have rxS2 := Owns.below rxS2 hv1
    have rxS3 := Owns.below rxS3 hv1
    have hq1 := Nat.le_trans hq0 hv1.size
    have hz1 := hv1.size
    have ee1 : Below u1.heap.size u1 u1 := Below.refl _ _
    have hW1 := hW0.trans (hv1.mono hW0.size)
    have s3 : u1.cell? ⟨bxS, 0, none⟩ = some (.int .i64 PS.f0) ∧ u1.cell? ⟨bxS, 1, none⟩ = some (.slice xxS1 PS.f1.length yxS1) ∧ u1.cell? ⟨bxS, 2, none⟩ = some (.slice xxS2 PS.f2.length yxS2) ∧ u1.cell? ⟨bxS, 3, none⟩ = some (.slice xxS3 PS.f3.length yxS3) := ⟨(BxS).at rfl, (BxS).at rfl, (BxS).at rfl, (BxS).at rfl⟩
    clear hb
    have cxS0 : u1.cell? ⟨bxS, 0, none⟩ = some (.int .i64 PS.f0) := BxS.at rfl
    have cxS1 : u1.cell? ⟨bxS, 1, none⟩ = some (.slice xxS1 PS.f1.length yxS1) := BxS.at rfl
    have cxS2 : u1.cell? ⟨bxS, 2, none⟩ = some (.slice xxS2 PS.f2.length yxS2) := BxS.at rfl
    have cxS3 : u1.cell? ⟨bxS, 3, none⟩ = some (.slice xxS3 PS.f3.length yxS3) := BxS.at rfl
    go_wp2_with fail
    go_meet
    case rel => exact ⟨_, _, rfl, rfl, Blk.new _ [Value.int .i64 R.f0, .int .i64 R.f1.f0, .int .i64 R.f1.f1, .int .i64 R.f1.f2] u1, (by omega), (by rw [gsize_alloc]; omega), (by omega), (Below.alloc hW1 hW1.size _)⟩
  case rest =>
  obtain ⟨w6, bGR, rfl, rfl, BGR, lbGR, ubGR, mbGR, hb6⟩ := hcut
  have hs6 : w5.heap.size ≤ w6.heap.size := hb6.size
  have fL := fL.below hb6
  have fS1 := fS1.below hb6
  have fS2 := fS2.below hb6
  have fS3 := fS3.below hb6
  have kS := kS.below hb6
  have gxL := Owns.below gxL hb6
  have rxS1 := Owns.below rxS1 hb6
  have rxS2 := Owns.below rxS2 hb6
  have rxS3 := Owns.below rxS3 hb6
  have BWR := BWR.below hb6
  have BxS := BxS.below hb6
  have hB6 := hB5.trans (hb6.mono hB5.size)
  clear hb6
  have rbGR0 : w6.cell? ⟨bGR, 0, none⟩ = some (.int .i64 R.f0) := BGR.at rfl
  have rbGR1 : w6.cell? ⟨bGR, 1, none⟩ = some (.int .i64 R.f1.f0) := BGR.at rfl
  have rbGR2 : w6.cell? ⟨bGR, 2, none⟩ = some (.int .i64 R.f1.f1) := BGR.at rfl
  have rbGR3 : w6.cell? ⟨bGR, 3, none⟩ = some (.int .i64 R.f1.f2) := BGR.at rfl
  have rbWR0 : w6.cell? ⟨bWR, 0, none⟩ = some (.int .i64 R.f0) := BWR.at rfl
  have rbWR1 : w6.cell? ⟨bWR, 1, none⟩ = some (.int .i64 R.f1.f0) := BWR.at rfl
  have rbWR2 : w6.cell? ⟨bWR, 2, none⟩ = some (.int .i64 R.f1.f1) := BWR.at rfl
  have rbWR3 : w6.cell? ⟨bWR, 3, none⟩ = some (.int .i64 R.f1.f2) := BWR.at rfl
  go_wp2_with fail
  go_at_call 31
  refine Calls.mono (geq_Want R) ?_
  rintro e w7 ⟨rfl, hb7⟩
  have hs7 : w6.heap.size ≤ w7.heap.size := hb7.size
  have fL := fL.below hb7
  have fS1 := fS1.below hb7
  have fS2 := fS2.below hb7
  have fS3 := fS3.below hb7
  have kS := kS.below hb7
  have gxL := Owns.below gxL hb7
  have rxS1 := Owns.below rxS1 hb7
  have rxS2 := Owns.below rxS2 hb7
  have rxS3 := Owns.below rxS3 hb7
  have BWR := BWR.below hb7
  have BxS := BxS.below hb7
  have BGR := BGR.below hb7
  have hB7 := hB6.trans (hb7.mono hB6.size)
  clear hb7
  go_wp2_with fail
  go_at_call 30
  refine Calls.mono (gto_OpS (lo := 0) (hi := w.heap.size) fL hB7.size (by omega)) ?_
  rintro e w8 ⟨v8, rfl, ho8, hb8⟩
  obtain ⟨xyL, yyL, rfl, _⟩ : ∃ a c, v8 = .slice a lL.length c ∧ True := by obtain ⟨a, c, q, _⟩ := ho8; exact ⟨a, c, q, trivial⟩
  have hs8 : w7.heap.size ≤ w8.heap.size := hb8.size
  have fL := fL.below hb8
  have fS1 := fS1.below hb8
  have fS2 := fS2.below hb8
  have fS3 := fS3.below hb8
  have kS := kS.below hb8
  have gxL := Owns.below gxL hb8
  have rxS1 := Owns.below rxS1 hb8
  have rxS2 := Owns.below rxS2 hb8
  have rxS3 := Owns.below rxS3 hb8
  have BWR := BWR.below hb8
  have BxS := BxS.below hb8
  have BGR := BGR.below hb8
  have hB8 := hB7.trans (hb8.mono hB7.size)
  clear hb8
  have gyL := ho8
  clear ho8
  have ugyL : ∀ t, Span w7.heap.size w8.heap.size t → w7.heap.size ≤ t ∧ t < w8.heap.size := fun t h => h
  go_wp2_with fail
  go_at_call 32
  refine Calls.mono (geq_OpS (Owns.lies gxL ugxL) (Owns.lies gyL ugyL) (by omega) (by omega)) ?_
  rintro e w9 ⟨rfl, hb9⟩
  have hs9 : w8.heap.size ≤ w9.heap.size := hb9.size
  have fL := fL.below hb9
  have fS1 := fS1.below hb9
  have fS2 := fS2.below hb9
  have fS3 := fS3.below hb9
  have kS := kS.below hb9
  have gxL := Owns.below gxL hb9
  have rxS1 := Owns.below rxS1 hb9
  have rxS2 := Owns.below rxS2 hb9
  have rxS3 := Owns.below rxS3 hb9
  have gyL := Owns.below gyL hb9
  have BWR := BWR.below hb9
  have BxS := BxS.below hb9
  have BGR := BGR.below hb9
  have hB9 := hB8.trans (hb9.mono hB8.size)
  clear hb9
  clear gyL ugyL
  go_upto_region 16 with fail
  go_cut [45] (fun s0 wx => ∃ (V : World), V = wx ∧ s0 = .bool false ∧ Below w9.heap.size w9 V)
  case first =>
    have hq0 : w.heap.size ≤ w9.heap.size := hB9.size
    have hW0 : Below w9.heap.size w9 w9 := Below.refl _ _
    have ee0 : Below w9.heap.size w9 w9 := Below.refl _ _
    have ed0 : Below w9.heap.size w9 w9.drew := (Below.refl _ _).drew
    have s3 : w9.drew.cell? ⟨w.heap.size, 0, none⟩ = some (.int .i64 PS.f0) ∧ w9.drew.cell? ⟨w.heap.size, 1, none⟩ = some (.slice aS1 PS.f1.length cS1) ∧ w9.drew.cell? ⟨w.heap.size, 2, none⟩ = some (.slice aS2 PS.f2.length cS2) ∧ w9.drew.cell? ⟨w.heap.size, 3, none⟩ = some (.slice aS3 PS.f3.length cS3) ∧ w9.drew.cell? ⟨bxS, 0, none⟩ = some (.int .i64 PS.f0) ∧ w9.drew.cell? ⟨bxS, 1, none⟩ = some (.slice xxS1 PS.f1.length yxS1) ∧ w9.drew.cell? ⟨bxS, 2, none⟩ = some (.slice xxS2 PS.f2.length yxS2) ∧ w9.drew.cell? ⟨bxS, 3, none⟩ = some (.slice xxS3 PS.f3.length yxS3) := ⟨(Blk.drew kS).at rfl, (Blk.drew kS).at rfl, (Blk.drew kS).at rfl, (Blk.drew kS).at rfl, (Blk.drew BxS).at rfl, (Blk.drew BxS).at rfl, (Blk.drew BxS).at rfl, (Blk.drew BxS).at rfl⟩
    go_wp2_with fail
    go_region_held3 (fun w' => w'.cell? ⟨w.heap.size, 0, none⟩ = some (.int .i64 PS.f0) ∧ w'.cell? ⟨w.heap.size, 1, none⟩ = some (.slice aS1 PS.f1.length cS1) ∧ w'.cell? ⟨w.heap.size, 2, none⟩ = some (.slice aS2 PS.f2.length cS2) ∧ w'.cell? ⟨w.heap.size, 3, none⟩ = some (.slice aS3 PS.f3.length cS3) ∧ w'.cell? ⟨bxS, 0, none⟩ = some (.int .i64 PS.f0) ∧ w'.cell? ⟨bxS, 1, none⟩ = some (.slice xxS1 PS.f1.length yxS1) ∧ w'.cell? ⟨bxS, 2, none⟩ = some (.slice xxS2 PS.f2.length yxS2) ∧ w'.cell? ⟨bxS, 3, none⟩ = some (.slice xxS3 PS.f3.length yxS3))
      (first | (with_reducible exact s3) | go_keep)
      (first
      | (go_at_call 27; refine Calls.mono (gto_State (lo := 0) (hi := w.heap.size) PS (fS1.below (w := w9) (by first | (with_reducible exact ee0) | (with_reducible exact ed0))) (fS2.below (w := w9) (by first | (with_reducible exact ee0) | (with_reducible exact ed0))) (fS3.below (w := w9) (by first | (with_reducible exact ee0) | (with_reducible exact ed0))) (Nat.le_trans hq0 (Below.size (B := w9.heap.size) (w := w9) (by first | (with_reducible exact ee0) | (with_reducible exact ed0)))) (by omega) (by omega) (by omega)) ?_; rintro e u1 ⟨XS1, YS1, XS2, YS2, XS3, YS3, mS1, mS2, rfl, ho1, ho2, ho3, onS0, onS1, onS2, hb⟩; have hv1 : Below w9.heap.size w9 u1 := Below.trans (show Below w9.heap.size w9 _ from (by first | (with_reducible exact ee0) | (with_reducible exact ed0))) (hb.mono (Below.size (B := w9.heap.size) (w := w9) (by first | (with_reducible exact ee0) | (with_reducible exact ed0)))); have fL := fL.below hv1; have fS1 := fS1.below hv1; have fS2 := fS2.below hv1; have fS3 := fS3.below hv1; have kS := kS.below hv1; have BxS := BxS.below hv1; have rxS1 := Owns.below rxS1 hv1; have rxS2 := Owns.below rxS2 hv1; have rxS3 := Owns.below rxS3 hv1; have qS1 := Owns.lies (lo := 0) (hi := u1.heap.size) ho1 (fun t h => ⟨Nat.zero_le _, by have := h.2; omega⟩); have qS2 := Owns.lies (lo := 0) (hi := u1.heap.size) ho2 (fun t h => ⟨Nat.zero_le _, by have := h.2; omega⟩); have qS3 := Owns.lies (lo := 0) (hi := u1.heap.size) ho3 (fun t h => ⟨Nat.zero_le _, by have := h.2; omega⟩); clear ho1 ho2 ho3 onS0 onS1 onS2; have hq1 := Nat.le_trans hq0 hv1.size; have hz1 := hv1.size; have ee1 : Below u1.heap.size u1 u1 := Below.refl _ _; have ed1 := ee1; have hW1 := hW0.trans (hv1.mono hW0.size); have s3 : u1.cell? ⟨w.heap.size, 0, none⟩ = some (.int .i64 PS.f0) ∧ u1.cell? ⟨w.heap.size, 1, none⟩ = some (.slice aS1 PS.f1.length cS1) ∧ u1.cell? ⟨w.heap.size, 2, none⟩ = some (.slice aS2 PS.f2.length cS2) ∧ u1.cell? ⟨w.heap.size, 3, none⟩ = some (.slice aS3 PS.f3.length cS3) ∧ u1.cell? ⟨bxS, 0, none⟩ = some (.int .i64 PS.f0) ∧ u1.cell? ⟨bxS, 1, none⟩ = some (.slice xxS1 PS.f1.length yxS1) ∧ u1.cell? ⟨bxS, 2, none⟩ = some (.slice xxS2 PS.f2.length yxS2) ∧ u1.cell? ⟨bxS, 3, none⟩ = some (.slice xxS3 PS.f3.length yxS3) := ⟨(kS).at rfl, (kS).at rfl, (kS).at rfl, (kS).at rfl, (BxS).at rfl, (BxS).at rfl, (BxS).at rfl, (BxS).at rfl⟩; clear hb)
      | (go_at_call 22; refine Calls.mono (geq_State PS (Lies.below (w := u1) (Owns.lies rxS1 (lo := 0) (hi := u1.heap.size) (fun t h => ⟨Nat.zero_le _, by have := urxS1 t h; omega⟩)) (by first | (with_reducible exact ee1) | (with_reducible exact ed1))) (Lies.below (w := u1) (Owns.lies rxS2 (lo := 0) (hi := u1.heap.size) (fun t h => ⟨Nat.zero_le _, by have := urxS2 t h; omega⟩)) (by first | (with_reducible exact ee1) | (with_reducible exact ed1))) (Lies.below (w := u1) (Owns.lies rxS3 (lo := 0) (hi := u1.heap.size) (fun t h => ⟨Nat.zero_le _, by have := urxS3 t h; omega⟩)) (by first | (with_reducible exact ee1) | (with_reducible exact ed1))) (Lies.below (w := u1) qS1 (by first | (with_reducible exact ee1) | (with_reducible exact ed1))) (Lies.below (w := u1) qS2 (by first | (with_reducible exact ee1) | (with_reducible exact ed1))) (Lies.below (w := u1) qS3 (by first | (with_reducible exact ee1) | (with_reducible exact ed1))) (Below.size (B := u1.heap.size) (w := u1) (by first | (with_reducible exact ee1) | (with_reducible exact ed1))) (Below.size (B := u1.heap.size) (w := u1) (by first | (with_reducible exact ee1) | (with_reducible exact ed1)))) ?_; rintro e u2 ⟨rfl, hb⟩; have hv2 : Below u1.heap.size u1 u2 := Below.trans (show Below u1.heap.size u1 _ from (by first | (with_reducible exact ee1) | (with_reducible exact ed1))) (hb.mono (Below.size (B := u1.heap.size) (w := u1) (by first | (with_reducible exact ee1) | (with_reducible exact ed1)))); have fL := fL.below hv2; have fS1 := fS1.below hv2; have fS2 := fS2.below hv2; have fS3 := fS3.below hv2; have kS := kS.below hv2; have BxS := BxS.below hv2; have rxS1 := Owns.below rxS1 hv2; have rxS2 := Owns.below rxS2 hv2; have rxS3 := Owns.below rxS3 hv2; have hq2 := Nat.le_trans hq1 hv2.size; have hz2 := hv2.size; have ee2 : Below u2.heap.size u2 u2 := Below.refl _ _; have ed2 := ee2; have hW2 := hW1.trans (hv2.mono hW1.size); have s3 : u2.cell? ⟨w.heap.size, 0, none⟩ = some (.int .i64 PS.f0) ∧ u2.cell? ⟨w.heap.size, 1, none⟩ = some (.slice aS1 PS.f1.length cS1) ∧ u2.cell? ⟨w.heap.size, 2, none⟩ = some (.slice aS2 PS.f2.length cS2) ∧ u2.cell? ⟨w.heap.size, 3, none⟩ = some (.slice aS3 PS.f3.length cS3) ∧ u2.cell? ⟨bxS, 0, none⟩ = some (.int .i64 PS.f0) ∧ u2.cell? ⟨bxS, 1, none⟩ = some (.slice xxS1 PS.f1.length yxS1) ∧ u2.cell? ⟨bxS, 2, none⟩ = some (.slice xxS2 PS.f2.length yxS2) ∧ u2.cell? ⟨bxS, 3, none⟩ = some (.slice xxS3 PS.f3.length yxS3) := ⟨(kS).at rfl, (kS).at rfl, (kS).at rfl, (kS).at rfl, (BxS).at rfl, (BxS).at rfl, (BxS).at rfl, (BxS).at rfl⟩; clear hb)
      )
    all_goals
      go_wp2_with fail
      go_meet
      case rel => exact ⟨_, rfl, rfl, hW2⟩
  case rest =>
  obtain ⟨w10, rfl, rfl, hb10⟩ := hcut
  have hs10 : w9.heap.size ≤ w10.heap.size := hb10.size
  have fL := fL.below hb10
  have fS1 := fS1.below hb10
  have fS2 := fS2.below hb10
  have fS3 := fS3.below hb10
  have kS := kS.below hb10
  have gxL := Owns.below gxL hb10
  have rxS1 := Owns.below rxS1 hb10
  have rxS2 := Owns.below rxS2 hb10
  have rxS3 := Owns.below rxS3 hb10
  have BWR := BWR.below hb10
  have BxS := BxS.below hb10
  have BGR := BGR.below hb10
  have hB10 := hB9.trans (hb10.mono hB9.size)
  clear hb10
  go_wp2
  go_ret
  exact ⟨rfl, hB10⟩
end Go.Proofs.Ytbohkohccnieiaa.FnExactWantOfW
