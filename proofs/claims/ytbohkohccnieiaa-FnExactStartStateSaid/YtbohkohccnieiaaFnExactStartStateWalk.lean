/-
  The law FnExactStartState returns true, and leaves what was there as it was.
  Conditions: the arguments can be read.
-/
import Derived.Test.YtbohkohccnieiaaMachStart
import Derived.Test.YtbohkohccnieiaaMachI
import Derived.Deep.CutBlock
import Derived.Deep.DeepCutAuto
import Derived.Deep.RegionHeld3
namespace Go.Proofs.Ytbohkohccnieiaa.FnExactStartStateW
open Go Go.RowKit Go.Proofs.Ytbohkohccnieiaa.Mem Go.Proofs.Ytbohkohccnieiaa.Gen Go.Proofs.Ytbohkohccnieiaa.Scripts Go.Proofs.Ytbohkohccnieiaa.Mach
set_option linter.unusedVariables false

set_option maxHeartbeats 4000000 in
set_option maxRecDepth 100000 in
theorem law_walk  (w : World)  :
    Calls Try.prog 4 #[] w fun e w' => e = .returned (.bool true) ∧ Below w.heap.size w w' := by
  have hB0 : Below w.heap.size w w := Below.refl _ _
  have hs0 : w.heap.size ≤ w.heap.size := Nat.le_refl _
  go_enter Try.func4, Try.ntmps4
  obtain ⟨R, hR⟩ : ∃ R : TState, startS = R := ⟨_, rfl⟩
  have zR1 : room (ints R.f1) ≤ 1048576 := by rw [room_ints, ← hR]; decide
  have zR2 : room (ints R.f2) ≤ 1048576 := by rw [room_ints, ← hR]; decide
  have zR3 : room (ints R.f3) ≤ 1048576 := by rw [room_ints, ← hR]; decide
  have hS : ∀ (W : World), Calls Try.prog 21 #[] W (fun e w' => ∃ (xR1 : Option Addr) (yR1 : Nat) (SR1 : Nat → Prop) (xR2 : Option Addr) (yR2 : Nat) (SR2 : Nat → Prop) (xR3 : Option Addr) (yR3 : Nat) (SR3 : Nat → Prop), e = .returned (Value.agg #[.int .i64 R.f0, .slice xR1 R.f1.length yR1, .slice xR2 R.f2.length yR2, .slice xR3 R.f3.length yR3]) ∧ Owns w' (ints R.f1) (.slice xR1 R.f1.length yR1) SR1 ∧ Owns w' (ints R.f2) (.slice xR2 R.f2.length yR2) SR2 ∧ Owns w' (ints R.f3) (.slice xR3 R.f3.length yR3) SR3 ∧ (∀ t, SR1 t → W.heap.size ≤ t ∧ t < w'.heap.size) ∧ (∀ t, SR2 t → W.heap.size ≤ t ∧ t < w'.heap.size) ∧ (∀ t, SR3 t → W.heap.size ≤ t ∧ t < w'.heap.size) ∧ Far xR1 R.f1.length xR2 R.f2.length ∧ Far xR1 R.f1.length xR3 R.f3.length ∧ Far xR2 R.f2.length xR3 R.f3.length ∧ Below W.heap.size W w') := by
    intro W  
    rw [← hR]
    exact start_spec W
  have hI : ∀ (W : World), Calls Try.prog 20 #[] W (fun e w' => ∃ (xR1 : Option Addr) (yR1 : Nat) (SR1 : Nat → Prop) (xR2 : Option Addr) (yR2 : Nat) (SR2 : Nat → Prop) (xR3 : Option Addr) (yR3 : Nat) (SR3 : Nat → Prop), e = .returned (Value.agg #[.int .i64 R.f0, .slice xR1 R.f1.length yR1, .slice xR2 R.f2.length yR2, .slice xR3 R.f3.length yR3]) ∧ Owns w' (ints R.f1) (.slice xR1 R.f1.length yR1) SR1 ∧ Owns w' (ints R.f2) (.slice xR2 R.f2.length yR2) SR2 ∧ Owns w' (ints R.f3) (.slice xR3 R.f3.length yR3) SR3 ∧ (∀ t, SR1 t → W.heap.size ≤ t ∧ t < w'.heap.size) ∧ (∀ t, SR2 t → W.heap.size ≤ t ∧ t < w'.heap.size) ∧ (∀ t, SR3 t → W.heap.size ≤ t ∧ t < w'.heap.size) ∧ Far xR1 R.f1.length xR2 R.f2.length ∧ Far xR1 R.f1.length xR3 R.f3.length ∧ Far xR2 R.f2.length xR3 R.f3.length ∧ Below W.heap.size W w') := by
    intro W  
    rw [← hR]
    exact implC.start W
  clear hR
  go_upto_region 1 with fail
  go_cut [1] (fun s0 wx => ∃ (V : World) (bR : Nat) (xR1 : Option Addr) (yR1 : Nat) (SR1 : Nat → Prop) (xR2 : Option Addr) (yR2 : Nat) (SR2 : Nat → Prop) (xR3 : Option Addr) (yR3 : Nat) (SR3 : Nat → Prop), V = wx ∧ s0 = .pointer (some ⟨bR, 0, none⟩) ∧ Blk 27 bR [Value.int .i64 R.f0, .slice xR1 R.f1.length yR1, .slice xR2 R.f2.length yR2, .slice xR3 R.f3.length yR3] V ∧ (w.heap.size + 0 ≤ bR) ∧ bR < V.heap.size ∧ (w.heap.size ≤ bR) ∧ Owns V (ints R.f1) (.slice xR1 R.f1.length yR1) SR1 ∧ Owns V (ints R.f2) (.slice xR2 R.f2.length yR2) SR2 ∧ Owns V (ints R.f3) (.slice xR3 R.f3.length yR3) SR3 ∧ (∀ t, SR1 t → w.heap.size ≤ t ∧ t < V.heap.size) ∧ (∀ t, SR2 t → w.heap.size ≤ t ∧ t < V.heap.size) ∧ (∀ t, SR3 t → w.heap.size ≤ t ∧ t < V.heap.size) ∧ Far xR1 R.f1.length xR2 R.f2.length ∧ Far xR1 R.f1.length xR3 R.f3.length ∧ Far xR2 R.f2.length xR3 R.f3.length ∧ ¬ SR1 bR ∧ ¬ SR2 bR ∧ ¬ SR3 bR ∧ Below w.heap.size w V)
  case first =>
    have hq0 : w.heap.size ≤ w.heap.size := hB0.size
    have hW0 : Below w.heap.size w w := Below.refl _ _
    have ee0 : Below w.heap.size w w := Below.refl _ _
    go_wp2_with fail
    go_at_call 21
    refine Calls.mono (hS _  ) ?_
    rintro e u1 ⟨xR1, yR1, SR1, xR2, yR2, SR2, xR3, yR3, SR3, rfl, roR1, roR2, roR3, suR1, suR2, suR3, diR1_R2, diR1_R3, diR2_R3, hb⟩
    have hv1 : Below w.heap.size w u1 := Below.trans (show Below w.heap.size w _ from ee0) (hb.mono (Below.size (B := w.heap.size) (w := w) ee0))
    have szR1 := hb.size
    have szR2 := hb.size
    have szR3 := hb.size
    have hq1 := Nat.le_trans hq0 hv1.size
    have hz1 := hv1.size
    have ee1 : Below u1.heap.size u1 u1 := Below.refl _ _
    have hW1 := hW0.trans (hv1.mono hW0.size)
    clear hb
    go_wp2_with fail
    go_meet
    case rel => exact ⟨_, _, _, _, SR1, _, _, SR2, _, _, SR3, rfl, rfl, Blk.new _ [Value.int .i64 R.f0, .slice xR1 R.f1.length yR1, .slice xR2 R.f2.length yR2, .slice xR3 R.f3.length yR3] u1, (by omega), (by rw [gsize_alloc]; omega), (by omega), (Owns.below roR1 ((Below.refl _ _).alloc (Nat.le_refl _) _)), (Owns.below roR2 ((Below.refl _ _).alloc (Nat.le_refl _) _)), (Owns.below roR3 ((Below.refl _ _).alloc (Nat.le_refl _) _)), (fun t hS => by have q := suR1 t hS; (try simp only [gsize_alloc] at q); (try simp only [gsize_drew] at q); (try simp only [gsize_alloc]); (try simp only [gsize_set]); omega), (fun t hS => by have q := suR2 t hS; (try simp only [gsize_alloc] at q); (try simp only [gsize_drew] at q); (try simp only [gsize_alloc]); (try simp only [gsize_set]); omega), (fun t hS => by have q := suR3 t hS; (try simp only [gsize_alloc] at q); (try simp only [gsize_drew] at q); (try simp only [gsize_alloc]); (try simp only [gsize_set]); omega), diR1_R2, diR1_R3, diR2_R3, (fun hS => by have q := suR1 _ hS; (try simp only [gsize_alloc] at q); (try simp only [gsize_drew] at q); omega), (fun hS => by have q := suR2 _ hS; (try simp only [gsize_alloc] at q); (try simp only [gsize_drew] at q); omega), (fun hS => by have q := suR3 _ hS; (try simp only [gsize_alloc] at q); (try simp only [gsize_drew] at q); omega), (Below.alloc hW1 hW1.size _)⟩
  case rest =>
  obtain ⟨w1, bWR, xWR1, yWR1, SWR1, xWR2, yWR2, SWR2, xWR3, yWR3, SWR3, rfl, rfl, BWR, lbWR, ubWR, mbWR, rWR1, rWR2, rWR3, urWR1, urWR2, urWR3, udWR1_R2, udWR1_R3, udWR2_R3, nbWR1_R, nbWR2_R, nbWR3_R, hb1⟩ := hcut
  have hs1 : w.heap.size ≤ w1.heap.size := hb1.size
  have hB1 := hB0.trans (hb1.mono hB0.size)
  clear hb1
  go_upto_region 2 with fail
  go_cut [2] (fun s0 wx => ∃ (V : World) (bR : Nat) (xR1 : Option Addr) (yR1 : Nat) (SR1 : Nat → Prop) (xR2 : Option Addr) (yR2 : Nat) (SR2 : Nat → Prop) (xR3 : Option Addr) (yR3 : Nat) (SR3 : Nat → Prop), V = wx ∧ s0 = .pointer (some ⟨bR, 0, none⟩) ∧ Blk 27 bR [Value.int .i64 R.f0, .slice xR1 R.f1.length yR1, .slice xR2 R.f2.length yR2, .slice xR3 R.f3.length yR3] V ∧ (w.heap.size + 0 ≤ bR) ∧ bR < V.heap.size ∧ (w1.heap.size ≤ bR) ∧ Owns V (ints R.f1) (.slice xR1 R.f1.length yR1) SR1 ∧ Owns V (ints R.f2) (.slice xR2 R.f2.length yR2) SR2 ∧ Owns V (ints R.f3) (.slice xR3 R.f3.length yR3) SR3 ∧ (∀ t, SR1 t → w1.heap.size ≤ t ∧ t < V.heap.size) ∧ (∀ t, SR2 t → w1.heap.size ≤ t ∧ t < V.heap.size) ∧ (∀ t, SR3 t → w1.heap.size ≤ t ∧ t < V.heap.size) ∧ Far xR1 R.f1.length xR2 R.f2.length ∧ Far xR1 R.f1.length xR3 R.f3.length ∧ Far xR2 R.f2.length xR3 R.f3.length ∧ ¬ SR1 bR ∧ ¬ SR2 bR ∧ ¬ SR3 bR ∧ Below w1.heap.size w1 V)
  case first =>
    have hq0 : w.heap.size ≤ w1.heap.size := hB1.size
    have hW0 : Below w1.heap.size w1 w1 := Below.refl _ _
    have ee0 : Below w1.heap.size w1 w1 := Below.refl _ _
    go_wp2_with fail
    go_at_call 20
    refine Calls.mono (hI _  ) ?_
    rintro e u1 ⟨xR1, yR1, SR1, xR2, yR2, SR2, xR3, yR3, SR3, rfl, roR1, roR2, roR3, suR1, suR2, suR3, diR1_R2, diR1_R3, diR2_R3, hb⟩
    have hv1 : Below w1.heap.size w1 u1 := Below.trans (show Below w1.heap.size w1 _ from ee0) (hb.mono (Below.size (B := w1.heap.size) (w := w1) ee0))
    have szR1 := hb.size
    have szR2 := hb.size
    have szR3 := hb.size
    have hq1 := Nat.le_trans hq0 hv1.size
    have hz1 := hv1.size
    have ee1 : Below u1.heap.size u1 u1 := Below.refl _ _
    have hW1 := hW0.trans (hv1.mono hW0.size)
    clear hb
    go_wp2_with fail
    go_meet
    case rel => exact ⟨_, _, _, _, SR1, _, _, SR2, _, _, SR3, rfl, rfl, Blk.new _ [Value.int .i64 R.f0, .slice xR1 R.f1.length yR1, .slice xR2 R.f2.length yR2, .slice xR3 R.f3.length yR3] u1, (by omega), (by rw [gsize_alloc]; omega), (by omega), (Owns.below roR1 ((Below.refl _ _).alloc (Nat.le_refl _) _)), (Owns.below roR2 ((Below.refl _ _).alloc (Nat.le_refl _) _)), (Owns.below roR3 ((Below.refl _ _).alloc (Nat.le_refl _) _)), (fun t hS => by have q := suR1 t hS; (try simp only [gsize_alloc] at q); (try simp only [gsize_drew] at q); (try simp only [gsize_alloc]); (try simp only [gsize_set]); omega), (fun t hS => by have q := suR2 t hS; (try simp only [gsize_alloc] at q); (try simp only [gsize_drew] at q); (try simp only [gsize_alloc]); (try simp only [gsize_set]); omega), (fun t hS => by have q := suR3 t hS; (try simp only [gsize_alloc] at q); (try simp only [gsize_drew] at q); (try simp only [gsize_alloc]); (try simp only [gsize_set]); omega), diR1_R2, diR1_R3, diR2_R3, (fun hS => by have q := suR1 _ hS; (try simp only [gsize_alloc] at q); (try simp only [gsize_drew] at q); omega), (fun hS => by have q := suR2 _ hS; (try simp only [gsize_alloc] at q); (try simp only [gsize_drew] at q); omega), (fun hS => by have q := suR3 _ hS; (try simp only [gsize_alloc] at q); (try simp only [gsize_drew] at q); omega), (Below.alloc hW1 hW1.size _)⟩
  case rest =>
  obtain ⟨w2, bGR, xGR1, yGR1, SGR1, xGR2, yGR2, SGR2, xGR3, yGR3, SGR3, rfl, rfl, BGR, lbGR, ubGR, mbGR, rGR1, rGR2, rGR3, urGR1, urGR2, urGR3, udGR1_R2, udGR1_R3, udGR2_R3, nbGR1_R, nbGR2_R, nbGR3_R, hb2⟩ := hcut
  have hs2 : w1.heap.size ≤ w2.heap.size := hb2.size
  have rWR1 := Owns.below rWR1 hb2
  have rWR2 := Owns.below rWR2 hb2
  have rWR3 := Owns.below rWR3 hb2
  have BWR := BWR.below hb2
  have hB2 := hB1.trans (hb2.mono hB1.size)
  clear hb2
  have rbGR0 : w2.cell? ⟨bGR, 0, none⟩ = some (.int .i64 R.f0) := BGR.at rfl
  have rbGR1 : w2.cell? ⟨bGR, 1, none⟩ = some (.slice xGR1 R.f1.length yGR1) := BGR.at rfl
  have rbGR2 : w2.cell? ⟨bGR, 2, none⟩ = some (.slice xGR2 R.f2.length yGR2) := BGR.at rfl
  have rbGR3 : w2.cell? ⟨bGR, 3, none⟩ = some (.slice xGR3 R.f3.length yGR3) := BGR.at rfl
  have rbWR0 : w2.cell? ⟨bWR, 0, none⟩ = some (.int .i64 R.f0) := BWR.at rfl
  have rbWR1 : w2.cell? ⟨bWR, 1, none⟩ = some (.slice xWR1 R.f1.length yWR1) := BWR.at rfl
  have rbWR2 : w2.cell? ⟨bWR, 2, none⟩ = some (.slice xWR2 R.f2.length yWR2) := BWR.at rfl
  have rbWR3 : w2.cell? ⟨bWR, 3, none⟩ = some (.slice xWR3 R.f3.length yWR3) := BWR.at rfl
  go_wp2_with fail
  go_at_call 22
  refine Calls.mono (geq_State R (((Owns.lies rGR1 urGR1)).more (lo' := 0) (hi' := w2.heap.size) (Nat.zero_le _) (by omega)) (((Owns.lies rGR2 urGR2)).more (lo' := 0) (hi' := w2.heap.size) (Nat.zero_le _) (by omega)) (((Owns.lies rGR3 urGR3)).more (lo' := 0) (hi' := w2.heap.size) (Nat.zero_le _) (by omega)) (((Owns.lies rWR1 urWR1)).more (lo' := 0) (hi' := w2.heap.size) (Nat.zero_le _) (by omega)) (((Owns.lies rWR2 urWR2)).more (lo' := 0) (hi' := w2.heap.size) (Nat.zero_le _) (by omega)) (((Owns.lies rWR3 urWR3)).more (lo' := 0) (hi' := w2.heap.size) (Nat.zero_le _) (by omega)) (by omega) (by omega)) ?_
  rintro e w3 ⟨rfl, hb3⟩
  have hs3 : w2.heap.size ≤ w3.heap.size := hb3.size
  have rWR1 := Owns.below rWR1 hb3
  have rWR2 := Owns.below rWR2 hb3
  have rWR3 := Owns.below rWR3 hb3
  have rGR1 := Owns.below rGR1 hb3
  have rGR2 := Owns.below rGR2 hb3
  have rGR3 := Owns.below rGR3 hb3
  have BWR := BWR.below hb3
  have BGR := BGR.below hb3
  have hB3 := hB2.trans (hb3.mono hB2.size)
  clear hb3
  obtain ⟨M1, hM1⟩ : ∃ y : Nat, 1 + ct (ints R.f1) = y := ⟨_, rfl⟩
  have zM1 : M1 ≤ 300000000 := by have := ctb_ints R.f1; omega
  obtain ⟨M2, hM2⟩ : ∃ y : Nat, M1 + ct (ints R.f2) = y := ⟨_, rfl⟩
  have zM2 : M2 ≤ 600000000 := by have := ctb_ints R.f2; omega
  obtain ⟨M3, hM3⟩ : ∃ y : Nat, M2 + ct (ints R.f3) = y := ⟨_, rfl⟩
  have zM3 : M3 ≤ 900000000 := by have := ctb_ints R.f3; omega
  have hM := gmark_StateF R 1 rGR1 rGR2 rGR3 udGR1_R2 udGR1_R3 udGR2_R3 (fun hS => by have q := urGR1 _ hS; omega) (fun hS => by have q := urGR2 _ hS; omega) (fun hS => by have q := urGR3 _ hS; omega) (by omega)
  rw [hM1, hM2, hM3] at hM
  have rbGR0 : w3.cell? ⟨bGR, 0, none⟩ = some (.int .i64 R.f0) := BGR.at rfl
  have rbGR1 : w3.cell? ⟨bGR, 1, none⟩ = some (.slice xGR1 R.f1.length yGR1) := BGR.at rfl
  have rbGR2 : w3.cell? ⟨bGR, 2, none⟩ = some (.slice xGR2 R.f2.length yGR2) := BGR.at rfl
  have rbGR3 : w3.cell? ⟨bGR, 3, none⟩ = some (.slice xGR3 R.f3.length yGR3) := BGR.at rfl
  go_wp2_with fail
  go_at_call 23
  refine Calls.mono (hM) ?_
  rintro e w4 ⟨rfl, nrGR1, nrGR2, nrGR3, ht4⟩
  clear hM
  have hs4 := ht4.size
  have BWR := (ht4.block _ BWR.lt (fun hS => by rcases hS with hS | hS | hS <;> first | (have q := urGR1 _ hS; omega) | (have q := urGR2 _ hS; omega) | (have q := urGR3 _ hS; omega))).trans BWR
  replace BWR : Blk 27 bWR [Value.int .i64 R.f0, .slice xWR1 R.f1.length yWR1, .slice xWR2 R.f2.length yWR2, .slice xWR3 R.f3.length yWR3] w4 := BWR
  have BGR := (ht4.block _ BGR.lt (fun hS => by rcases hS with hS | hS | hS <;> first | (exact absurd hS nbGR1_R) | (exact absurd hS nbGR2_R) | (exact absurd hS nbGR3_R))).trans BGR
  replace BGR : Blk 27 bGR [Value.int .i64 R.f0, .slice xGR1 R.f1.length yGR1, .slice xGR2 R.f2.length yGR2, .slice xGR3 R.f3.length yGR3] w4 := BGR
  have rWR1 := Owns.turn rWR1 ht4 (fun t hX hS => by rcases hS with hS | hS | hS <;> first | (exact (by have q := urGR1 t hS; have p := urWR1 t hX; omega)) | (exact (by have q := urGR2 t hS; have p := urWR1 t hX; omega)) | (exact (by have q := urGR3 t hS; have p := urWR1 t hX; omega)))
  have rWR2 := Owns.turn rWR2 ht4 (fun t hX hS => by rcases hS with hS | hS | hS <;> first | (exact (by have q := urGR1 t hS; have p := urWR2 t hX; omega)) | (exact (by have q := urGR2 t hS; have p := urWR2 t hX; omega)) | (exact (by have q := urGR3 t hS; have p := urWR2 t hX; omega)))
  have rWR3 := Owns.turn rWR3 ht4 (fun t hX hS => by rcases hS with hS | hS | hS <;> first | (exact (by have q := urGR1 t hS; have p := urWR3 t hX; omega)) | (exact (by have q := urGR2 t hS; have p := urWR3 t hX; omega)) | (exact (by have q := urGR3 t hS; have p := urWR3 t hX; omega)))
  have hB4 := hB3.trans (ht4.below (fun t hS => by rcases hS with hS | hS | hS <;> first | (have q := urGR1 t hS; omega) | (have q := urGR2 t hS; omega) | (have q := urGR3 t hS; omega)) hB3.size)
  clear ht4
  have rGR1 := nrGR1
  clear nrGR1
  have rGR2 := nrGR2
  clear nrGR2
  have rGR3 := nrGR3
  clear nrGR3
  have hM := gheld_State (lo := 0) (hi := w4.heap.size) (A1 := xGR1) (c1 := yGR1) (A2 := xGR2) (c2 := yGR2) (A3 := xGR3) (c3 := yGR3) R 1 (((Owns.lies rGR1 urGR1)).more (lo' := 0) (hi' := w4.heap.size) (Nat.zero_le _) (by omega)) (by rw [hM1]; exact (((Owns.lies rGR2 urGR2)).more (lo' := 0) (hi' := w4.heap.size) (Nat.zero_le _) (by omega))) (by rw [hM1, hM2]; exact (((Owns.lies rGR3 urGR3)).more (lo' := 0) (hi' := w4.heap.size) (Nat.zero_le _) (by omega))) (by omega) (by omega)
  rw [hM1, hM2, hM3] at hM
  have dM : decide ((M3 : Int) < 0) = false := by first | (simp; done) | (simp; omega)
  have rbGR0 : w4.cell? ⟨bGR, 0, none⟩ = some (.int .i64 R.f0) := BGR.at rfl
  have rbGR1 : w4.cell? ⟨bGR, 1, none⟩ = some (.slice xGR1 R.f1.length yGR1) := BGR.at rfl
  have rbGR2 : w4.cell? ⟨bGR, 2, none⟩ = some (.slice xGR2 R.f2.length yGR2) := BGR.at rfl
  have rbGR3 : w4.cell? ⟨bGR, 3, none⟩ = some (.slice xGR3 R.f3.length yGR3) := BGR.at rfl
  go_wp2_with fail
  go_at_call 24
  refine Calls.mono (hM) ?_
  rintro e w5 ⟨rfl, hb5⟩
  have hs5 : w4.heap.size ≤ w5.heap.size := hb5.size
  have rWR1 := Owns.below rWR1 hb5
  have rWR2 := Owns.below rWR2 hb5
  have rWR3 := Owns.below rWR3 hb5
  have rGR1 := Owns.below rGR1 hb5
  have rGR2 := Owns.below rGR2 hb5
  have rGR3 := Owns.below rGR3 hb5
  have BWR := BWR.below hb5
  have BGR := BGR.below hb5
  have hB5 := hB4.trans (hb5.mono hB4.size)
  clear hb5
  clear hM
  go_upto_region 13 with fail
  go_cut [5] (fun s0 wx => ∃ (V : World) (bR : Nat) (xR1 : Option Addr) (yR1 : Nat) (SR1 : Nat → Prop) (xR2 : Option Addr) (yR2 : Nat) (SR2 : Nat → Prop) (xR3 : Option Addr) (yR3 : Nat) (SR3 : Nat → Prop), V = wx ∧ s0 = .pointer (some ⟨bR, 0, none⟩) ∧ Blk 27 bR [Value.int .i64 R.f0, .slice xR1 R.f1.length yR1, .slice xR2 R.f2.length yR2, .slice xR3 R.f3.length yR3] V ∧ (w.heap.size + 0 ≤ bR) ∧ bR < V.heap.size ∧ (w5.heap.size ≤ bR) ∧ Owns V (ints R.f1) (.slice xR1 R.f1.length yR1) SR1 ∧ Owns V (ints R.f2) (.slice xR2 R.f2.length yR2) SR2 ∧ Owns V (ints R.f3) (.slice xR3 R.f3.length yR3) SR3 ∧ (∀ t, SR1 t → w5.heap.size ≤ t ∧ t < V.heap.size) ∧ (∀ t, SR2 t → w5.heap.size ≤ t ∧ t < V.heap.size) ∧ (∀ t, SR3 t → w5.heap.size ≤ t ∧ t < V.heap.size) ∧ Far xR1 R.f1.length xR2 R.f2.length ∧ Far xR1 R.f1.length xR3 R.f3.length ∧ Far xR2 R.f2.length xR3 R.f3.length ∧ ¬ SR1 bR ∧ ¬ SR2 bR ∧ ¬ SR3 bR ∧ Below w5.heap.size w5 V)
  case first =>
    have hq0 : w.heap.size ≤ w5.heap.size := hB5.size
    have hW0 : Below w5.heap.size w5 w5 := Below.refl _ _
    have ee0 : Below w5.heap.size w5 w5 := Below.refl _ _
    go_wp2_with fail
    go_at_call 20
    refine Calls.mono (hI _  ) ?_
    rintro e u1 ⟨xR1, yR1, SR1, xR2, yR2, SR2, xR3, yR3, SR3, rfl, roR1, roR2, roR3, suR1, suR2, suR3, diR1_R2, diR1_R3, diR2_R3, hb⟩
    have hv1 : Below w5.heap.size w5 u1 := Below.trans (show Below w5.heap.size w5 _ from ee0) (hb.mono (Below.size (B := w5.heap.size) (w := w5) ee0))
    have szR1 := hb.size
    have szR2 := hb.size
    have szR3 := hb.size
    have hq1 := Nat.le_trans hq0 hv1.size
    have hz1 := hv1.size
    have ee1 : Below u1.heap.size u1 u1 := Below.refl _ _
    have hW1 := hW0.trans (hv1.mono hW0.size)
    clear hb
    go_wp2_with fail
    go_meet
    case rel => exact ⟨_, _, _, _, SR1, _, _, SR2, _, _, SR3, rfl, rfl, Blk.new _ [Value.int .i64 R.f0, .slice xR1 R.f1.length yR1, .slice xR2 R.f2.length yR2, .slice xR3 R.f3.length yR3] u1, (by omega), (by rw [gsize_alloc]; omega), (by omega), (Owns.below roR1 ((Below.refl _ _).alloc (Nat.le_refl _) _)), (Owns.below roR2 ((Below.refl _ _).alloc (Nat.le_refl _) _)), (Owns.below roR3 ((Below.refl _ _).alloc (Nat.le_refl _) _)), (fun t hS => by have q := suR1 t hS; (try simp only [gsize_alloc] at q); (try simp only [gsize_drew] at q); (try simp only [gsize_alloc]); (try simp only [gsize_set]); omega), (fun t hS => by have q := suR2 t hS; (try simp only [gsize_alloc] at q); (try simp only [gsize_drew] at q); (try simp only [gsize_alloc]); (try simp only [gsize_set]); omega), (fun t hS => by have q := suR3 t hS; (try simp only [gsize_alloc] at q); (try simp only [gsize_drew] at q); (try simp only [gsize_alloc]); (try simp only [gsize_set]); omega), diR1_R2, diR1_R3, diR2_R3, (fun hS => by have q := suR1 _ hS; (try simp only [gsize_alloc] at q); (try simp only [gsize_drew] at q); omega), (fun hS => by have q := suR2 _ hS; (try simp only [gsize_alloc] at q); (try simp only [gsize_drew] at q); omega), (fun hS => by have q := suR3 _ hS; (try simp only [gsize_alloc] at q); (try simp only [gsize_drew] at q); omega), (Below.alloc hW1 hW1.size _)⟩
  case rest =>
  obtain ⟨w6, bHR, xHR1, yHR1, SHR1, xHR2, yHR2, SHR2, xHR3, yHR3, SHR3, rfl, rfl, BHR, lbHR, ubHR, mbHR, rHR1, rHR2, rHR3, urHR1, urHR2, urHR3, udHR1_R2, udHR1_R3, udHR2_R3, nbHR1_R, nbHR2_R, nbHR3_R, hb6⟩ := hcut
  have hs6 : w5.heap.size ≤ w6.heap.size := hb6.size
  have rWR1 := Owns.below rWR1 hb6
  have rWR2 := Owns.below rWR2 hb6
  have rWR3 := Owns.below rWR3 hb6
  have rGR1 := Owns.below rGR1 hb6
  have rGR2 := Owns.below rGR2 hb6
  have rGR3 := Owns.below rGR3 hb6
  have BWR := BWR.below hb6
  have BGR := BGR.below hb6
  have hB6 := hB5.trans (hb6.mono hB5.size)
  clear hb6
  have rbHR0 : w6.cell? ⟨bHR, 0, none⟩ = some (.int .i64 R.f0) := BHR.at rfl
  have rbHR1 : w6.cell? ⟨bHR, 1, none⟩ = some (.slice xHR1 R.f1.length yHR1) := BHR.at rfl
  have rbHR2 : w6.cell? ⟨bHR, 2, none⟩ = some (.slice xHR2 R.f2.length yHR2) := BHR.at rfl
  have rbHR3 : w6.cell? ⟨bHR, 3, none⟩ = some (.slice xHR3 R.f3.length yHR3) := BHR.at rfl
  have rbWR0 : w6.cell? ⟨bWR, 0, none⟩ = some (.int .i64 R.f0) := BWR.at rfl
  have rbWR1 : w6.cell? ⟨bWR, 1, none⟩ = some (.slice xWR1 R.f1.length yWR1) := BWR.at rfl
  have rbWR2 : w6.cell? ⟨bWR, 2, none⟩ = some (.slice xWR2 R.f2.length yWR2) := BWR.at rfl
  have rbWR3 : w6.cell? ⟨bWR, 3, none⟩ = some (.slice xWR3 R.f3.length yWR3) := BWR.at rfl
  go_wp2_with fail
  go_at_call 22
  refine Calls.mono (geq_State R (((Owns.lies rHR1 urHR1)).more (lo' := 0) (hi' := w6.heap.size) (Nat.zero_le _) (by omega)) (((Owns.lies rHR2 urHR2)).more (lo' := 0) (hi' := w6.heap.size) (Nat.zero_le _) (by omega)) (((Owns.lies rHR3 urHR3)).more (lo' := 0) (hi' := w6.heap.size) (Nat.zero_le _) (by omega)) (((Owns.lies rWR1 urWR1)).more (lo' := 0) (hi' := w6.heap.size) (Nat.zero_le _) (by omega)) (((Owns.lies rWR2 urWR2)).more (lo' := 0) (hi' := w6.heap.size) (Nat.zero_le _) (by omega)) (((Owns.lies rWR3 urWR3)).more (lo' := 0) (hi' := w6.heap.size) (Nat.zero_le _) (by omega)) (by omega) (by omega)) ?_
  rintro e w7 ⟨rfl, hb7⟩
  have hs7 : w6.heap.size ≤ w7.heap.size := hb7.size
  have rWR1 := Owns.below rWR1 hb7
  have rWR2 := Owns.below rWR2 hb7
  have rWR3 := Owns.below rWR3 hb7
  have rGR1 := Owns.below rGR1 hb7
  have rGR2 := Owns.below rGR2 hb7
  have rGR3 := Owns.below rGR3 hb7
  have rHR1 := Owns.below rHR1 hb7
  have rHR2 := Owns.below rHR2 hb7
  have rHR3 := Owns.below rHR3 hb7
  have BWR := BWR.below hb7
  have BGR := BGR.below hb7
  have BHR := BHR.below hb7
  have hB7 := hB6.trans (hb7.mono hB6.size)
  clear hb7
  have hM := gheld_State (lo := 0) (hi := w7.heap.size) (A1 := xGR1) (c1 := yGR1) (A2 := xGR2) (c2 := yGR2) (A3 := xGR3) (c3 := yGR3) R 1 (((Owns.lies rGR1 urGR1)).more (lo' := 0) (hi' := w7.heap.size) (Nat.zero_le _) (by omega)) (by rw [hM1]; exact (((Owns.lies rGR2 urGR2)).more (lo' := 0) (hi' := w7.heap.size) (Nat.zero_le _) (by omega))) (by rw [hM1, hM2]; exact (((Owns.lies rGR3 urGR3)).more (lo' := 0) (hi' := w7.heap.size) (Nat.zero_le _) (by omega))) (by omega) (by omega)
  rw [hM1, hM2, hM3] at hM
  have dM : decide ((M3 : Int) < 0) = false := by first | (simp; done) | (simp; omega)
  have rbGR0 : w7.cell? ⟨bGR, 0, none⟩ = some (.int .i64 R.f0) := BGR.at rfl
  have rbGR1 : w7.cell? ⟨bGR, 1, none⟩ = some (.slice xGR1 R.f1.length yGR1) := BGR.at rfl
  have rbGR2 : w7.cell? ⟨bGR, 2, none⟩ = some (.slice xGR2 R.f2.length yGR2) := BGR.at rfl
  have rbGR3 : w7.cell? ⟨bGR, 3, none⟩ = some (.slice xGR3 R.f3.length yGR3) := BGR.at rfl
  go_wp2_with fail
  go_at_call 24
  refine Calls.mono (hM) ?_
  rintro e w8 ⟨rfl, hb8⟩
  have hs8 : w7.heap.size ≤ w8.heap.size := hb8.size
  have rWR1 := Owns.below rWR1 hb8
  have rWR2 := Owns.below rWR2 hb8
  have rWR3 := Owns.below rWR3 hb8
  have rGR1 := Owns.below rGR1 hb8
  have rGR2 := Owns.below rGR2 hb8
  have rGR3 := Owns.below rGR3 hb8
  have rHR1 := Owns.below rHR1 hb8
  have rHR2 := Owns.below rHR2 hb8
  have rHR3 := Owns.below rHR3 hb8
  have BWR := BWR.below hb8
  have BGR := BGR.below hb8
  have BHR := BHR.below hb8
  have hB8 := hB7.trans (hb8.mono hB7.size)
  clear hb8
  clear hM
  go_wp2
  go_ret
  exact ⟨rfl, hB8⟩
end Go.Proofs.Ytbohkohccnieiaa.FnExactStartStateW
