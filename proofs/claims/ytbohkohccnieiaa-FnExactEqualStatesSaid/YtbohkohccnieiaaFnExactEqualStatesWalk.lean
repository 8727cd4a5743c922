/-
  The law FnExactEqualStates returns true, and leaves what was there as it was.
  Conditions: the arguments can be read.
-/
import Derived.Test.YtbohkohccnieiaaMachS
import Derived.Test.YtbohkohccnieiaaMachI
import Derived.Deep.CutBlock
import Derived.Deep.DeepCutAuto
import Derived.Deep.RegionHeld3
namespace Go.Proofs.Ytbohkohccnieiaa.FnExactEqualStatesW
open Go Go.RowKit Go.Proofs.Ytbohkohccnieiaa.Mem Go.Proofs.Ytbohkohccnieiaa.Gen Go.Proofs.Ytbohkohccnieiaa.Scripts Go.Proofs.Ytbohkohccnieiaa.Mach
set_option linter.unusedVariables false

set_option maxHeartbeats 4000000 in
set_option maxRecDepth 100000 in
theorem law_walk (PA : TState) (aA1 : Option Addr) (cA1 : Nat) (aA2 : Option Addr) (cA2 : Nat) (aA3 : Option Addr) (cA3 : Nat) (PB : TState) (aB1 : Option Addr) (cB1 : Nat) (aB2 : Option Addr) (cB2 : Nat) (aB3 : Option Addr) (cB3 : Nat) (w : World) (bA0 : (Lit.int .i64 PA.f0).wf = true) (fA1 : Lies 0 w.heap.size w (ints PA.f1) (.slice aA1 PA.f1.length cA1)) (fA2 : Lies 0 w.heap.size w (ints PA.f2) (.slice aA2 PA.f2.length cA2)) (fA3 : Lies 0 w.heap.size w (ints PA.f3) (.slice aA3 PA.f3.length cA3)) (bB0 : (Lit.int .i64 PB.f0).wf = true) (fB1 : Lies 0 w.heap.size w (ints PB.f1) (.slice aB1 PB.f1.length cB1)) (fB2 : Lies 0 w.heap.size w (ints PB.f2) (.slice aB2 PB.f2.length cB2)) (fB3 : Lies 0 w.heap.size w (ints PB.f3) (.slice aB3 PB.f3.length cB3)) :
    Calls Try.prog 9 #[(Value.agg #[.int .i64 PA.f0, .slice aA1 PA.f1.length cA1, .slice aA2 PA.f2.length cA2, .slice aA3 PA.f3.length cA3]), (Value.agg #[.int .i64 PB.f0, .slice aB1 PB.f1.length cB1, .slice aB2 PB.f2.length cB2, .slice aB3 PB.f3.length cB3])] w fun e w' => e = .returned (.bool true) ∧ Below w.heap.size w w' := by
  have hB0 : Below w.heap.size w ((w.alloc (.cells #[Value.int .i64 PA.f0, .slice aA1 PA.f1.length cA1, .slice aA2 PA.f2.length cA2, .slice aA3 PA.f3.length cA3] 45)).alloc (.cells #[Value.int .i64 PB.f0, .slice aB1 PB.f1.length cB1, .slice aB2 PB.f2.length cB2, .slice aB3 PB.f3.length cB3] 45)) := by repeat' (first | exact Below.refl _ _ | assumption | refine Below.setCell ?_ ?_ _ | refine Below.alloc ?_ ?_ _ | refine Gen.gbelow_drewN ?_ _ | refine Below.drew ?_ | exact Nat.le_refl _ | omega | (dsimp only; omega) | refine Gen.gle_alloc ?_ | refine Gen.gle_set ?_ | refine Gen.gle_drewN ?_ | refine Gen.gle_drew ?_)
  have hs0 : ((w.alloc (.cells #[Value.int .i64 PA.f0, .slice aA1 PA.f1.length cA1, .slice aA2 PA.f2.length cA2, .slice aA3 PA.f3.length cA3] 45)).alloc (.cells #[Value.int .i64 PB.f0, .slice aB1 PB.f1.length cB1, .slice aB2 PB.f2.length cB2, .slice aB3 PB.f3.length cB3] 45)).heap.size = w.heap.size + 2 := by simp only [gsize_alloc]
  have kA : Blk 45 (w.heap.size) [Value.int .i64 PA.f0, .slice aA1 PA.f1.length cA1, .slice aA2 PA.f2.length cA2, .slice aA3 PA.f3.length cA3] ((w.alloc (.cells #[Value.int .i64 PA.f0, .slice aA1 PA.f1.length cA1, .slice aA2 PA.f2.length cA2, .slice aA3 PA.f3.length cA3] 45)).alloc (.cells #[Value.int .i64 PB.f0, .slice aB1 PB.f1.length cB1, .slice aB2 PB.f2.length cB2, .slice aB3 PB.f3.length cB3] 45)) := by
    have q := Blk.new 45 [Value.int .i64 PA.f0, .slice aA1 PA.f1.length cA1, .slice aA2 PA.f2.length cA2, .slice aA3 PA.f3.length cA3] w
    exact q.alloc _
  have kB : Blk 45 (w.heap.size + 1) [Value.int .i64 PB.f0, .slice aB1 PB.f1.length cB1, .slice aB2 PB.f2.length cB2, .slice aB3 PB.f3.length cB3] ((w.alloc (.cells #[Value.int .i64 PA.f0, .slice aA1 PA.f1.length cA1, .slice aA2 PA.f2.length cA2, .slice aA3 PA.f3.length cA3] 45)).alloc (.cells #[Value.int .i64 PB.f0, .slice aB1 PB.f1.length cB1, .slice aB2 PB.f2.length cB2, .slice aB3 PB.f3.length cB3] 45)) := by
    have q := Blk.new 45 [Value.int .i64 PB.f0, .slice aB1 PB.f1.length cB1, .slice aB2 PB.f2.length cB2, .slice aB3 PB.f3.length cB3] (w.alloc (.cells #[Value.int .i64 PA.f0, .slice aA1 PA.f1.length cA1, .slice aA2 PA.f2.length cA2, .slice aA3 PA.f3.length cA3] 45))
    rw [gsize_alloc] at q; exact q
  have fA1 := fA1.below hB0
  have fA2 := fA2.below hB0
  have fA3 := fA3.below hB0
  have fB1 := fB1.below hB0
  have fB2 := fB2.below hB0
  have fB3 := fB3.below hB0
  go_enter Try.func9, Try.ntmps9
  have cbA0 : ((w.alloc (.cells #[Value.int .i64 PA.f0, .slice aA1 PA.f1.length cA1, .slice aA2 PA.f2.length cA2, .slice aA3 PA.f3.length cA3] 45)).alloc (.cells #[Value.int .i64 PB.f0, .slice aB1 PB.f1.length cB1, .slice aB2 PB.f2.length cB2, .slice aB3 PB.f3.length cB3] 45)).cell? ⟨w.heap.size, 0, none⟩ = some (.int .i64 PA.f0) := kA.at rfl
  have cbA1 : ((w.alloc (.cells #[Value.int .i64 PA.f0, .slice aA1 PA.f1.length cA1, .slice aA2 PA.f2.length cA2, .slice aA3 PA.f3.length cA3] 45)).alloc (.cells #[Value.int .i64 PB.f0, .slice aB1 PB.f1.length cB1, .slice aB2 PB.f2.length cB2, .slice aB3 PB.f3.length cB3] 45)).cell? ⟨w.heap.size, 1, none⟩ = some (.slice aA1 PA.f1.length cA1) := kA.at rfl
  have cbA2 : ((w.alloc (.cells #[Value.int .i64 PA.f0, .slice aA1 PA.f1.length cA1, .slice aA2 PA.f2.length cA2, .slice aA3 PA.f3.length cA3] 45)).alloc (.cells #[Value.int .i64 PB.f0, .slice aB1 PB.f1.length cB1, .slice aB2 PB.f2.length cB2, .slice aB3 PB.f3.length cB3] 45)).cell? ⟨w.heap.size, 2, none⟩ = some (.slice aA2 PA.f2.length cA2) := kA.at rfl
  have cbA3 : ((w.alloc (.cells #[Value.int .i64 PA.f0, .slice aA1 PA.f1.length cA1, .slice aA2 PA.f2.length cA2, .slice aA3 PA.f3.length cA3] 45)).alloc (.cells #[Value.int .i64 PB.f0, .slice aB1 PB.f1.length cB1, .slice aB2 PB.f2.length cB2, .slice aB3 PB.f3.length cB3] 45)).cell? ⟨w.heap.size, 3, none⟩ = some (.slice aA3 PA.f3.length cA3) := kA.at rfl
  go_wp2_with fail
  go_at_call 25
  refine Calls.mono (gsz_State (lo := 0) (hi := w.heap.size) PA fA1 fA2 fA3 hB0.size 1048576 (by omega) (by omega)) ?_
  rintro e w1 ⟨rfl, hb1⟩
  have hs1 : ((w.alloc (.cells #[Value.int .i64 PA.f0, .slice aA1 PA.f1.length cA1, .slice aA2 PA.f2.length cA2, .slice aA3 PA.f3.length cA3] 45)).alloc (.cells #[Value.int .i64 PB.f0, .slice aB1 PB.f1.length cB1, .slice aB2 PB.f2.length cB2, .slice aB3 PB.f3.length cB3] 45)).heap.size ≤ w1.heap.size := hb1.size
  have fA1 := fA1.below hb1
  have fA2 := fA2.below hb1
  have fA3 := fA3.below hb1
  have fB1 := fB1.below hb1
  have fB2 := fB2.below hb1
  have fB3 := fB3.below hb1
  have kA := kA.below hb1
  have kB := kB.below hb1
  have hB1 := hB0.trans (hb1.mono hB0.size)
  clear hb1
  have hl1 := left_cases 1048576 (room (ints PA.f1) + room (ints PA.f2) + room (ints PA.f3)) (by omega)
  obtain ⟨L1, hL1⟩ : ∃ L, left 1048576 (room (ints PA.f1) + room (ints PA.f2) + room (ints PA.f3)) = L := ⟨_, rfl⟩
  rw [hL1] at hl1 ⊢
  rcases hl1 with ⟨rfl, hl1⟩ | ⟨hl1, gl1⟩
  · go_wp2
    go_ret
    exact ⟨rfl, hB1⟩
  have dl1 : decide (L1 < 0) = false := by simp; omega
  have ml1 : L1 ≤ 1048576 := by omega
  have rmA1 : room (ints PA.f1) ≤ 1048576 := by omega
  have rmA2 : room (ints PA.f2) ≤ 1048576 := by omega
  have rmA3 : room (ints PA.f3) ≤ 1048576 := by omega
  clear hl1 hL1
  have cbB0 : w1.cell? ⟨w.heap.size + 1, 0, none⟩ = some (.int .i64 PB.f0) := kB.at rfl
  have cbB1 : w1.cell? ⟨w.heap.size + 1, 1, none⟩ = some (.slice aB1 PB.f1.length cB1) := kB.at rfl
  have cbB2 : w1.cell? ⟨w.heap.size + 1, 2, none⟩ = some (.slice aB2 PB.f2.length cB2) := kB.at rfl
  have cbB3 : w1.cell? ⟨w.heap.size + 1, 3, none⟩ = some (.slice aB3 PB.f3.length cB3) := kB.at rfl
  go_wp2_with fail
  go_at_call 25
  refine Calls.mono (gsz_State (lo := 0) (hi := w.heap.size) PB fB1 fB2 fB3 hB1.size L1 gl1 ml1) ?_
  rintro e w2 ⟨rfl, hb2⟩
  have hs2 : w1.heap.size ≤ w2.heap.size := hb2.size
  have fA1 := fA1.below hb2
  have fA2 := fA2.below hb2
  have fA3 := fA3.below hb2
  have fB1 := fB1.below hb2
  have fB2 := fB2.below hb2
  have fB3 := fB3.below hb2
  have kA := kA.below hb2
  have kB := kB.below hb2
  have hB2 := hB1.trans (hb2.mono hB1.size)
  clear hb2
  have hl2 := left_cases L1 (room (ints PB.f1) + room (ints PB.f2) + room (ints PB.f3)) gl1
  obtain ⟨L2, hL2⟩ : ∃ L, left L1 (room (ints PB.f1) + room (ints PB.f2) + room (ints PB.f3)) = L := ⟨_, rfl⟩
  rw [hL2] at hl2 ⊢
  rcases hl2 with ⟨rfl, hl2⟩ | ⟨hl2, gl2⟩
  · go_wp2
    go_ret
    exact ⟨rfl, hB2⟩
  have dl2 : decide (L2 < 0) = false := by simp; omega
  have ml2 : L2 ≤ 1048576 := by omega
  have rmB1 : room (ints PB.f1) ≤ 1048576 := by omega
  have rmB2 : room (ints PB.f2) ≤ 1048576 := by omega
  have rmB3 : room (ints PB.f3) ≤ 1048576 := by omega
  clear hl2 hL2
  have mA1 : PA.f1.length ≤ 1048576 := by have h0 := rmA1; rw [room_ints] at h0; exact h0
  have mA2 : PA.f2.length ≤ 1048576 := by have h0 := rmA2; rw [room_ints] at h0; exact h0
  have mA3 : PA.f3.length ≤ 1048576 := by have h0 := rmA3; rw [room_ints] at h0; exact h0
  have mB1 : PB.f1.length ≤ 1048576 := by have h0 := rmB1; rw [room_ints] at h0; exact h0
  have mB2 : PB.f2.length ≤ 1048576 := by have h0 := rmB2; rw [room_ints] at h0; exact h0
  have mB3 : PB.f3.length ≤ 1048576 := by have h0 := rmB3; rw [room_ints] at h0; exact h0
  obtain ⟨R, hR⟩ : ∃ R : Bool, sameB PA PB = R := ⟨_, rfl⟩
  have hS : ∀ (W : World) (loA1 hiA1 : Nat) (aA1 : Option Addr) (cA1 : Nat) (loA2 hiA2 : Nat) (aA2 : Option Addr) (cA2 : Nat) (loA3 hiA3 : Nat) (aA3 : Option Addr) (cA3 : Nat) (loB1 hiB1 : Nat) (aB1 : Option Addr) (cB1 : Nat) (loB2 hiB2 : Nat) (aB2 : Option Addr) (cB2 : Nat) (loB3 hiB3 : Nat) (aB3 : Option Addr) (cB3 : Nat), Lies loA1 hiA1 W (ints PA.f1) (.slice aA1 PA.f1.length cA1) → hiA1 ≤ W.heap.size → Lies loA2 hiA2 W (ints PA.f2) (.slice aA2 PA.f2.length cA2) → hiA2 ≤ W.heap.size → Lies loA3 hiA3 W (ints PA.f3) (.slice aA3 PA.f3.length cA3) → hiA3 ≤ W.heap.size → Lies loB1 hiB1 W (ints PB.f1) (.slice aB1 PB.f1.length cB1) → hiB1 ≤ W.heap.size → Lies loB2 hiB2 W (ints PB.f2) (.slice aB2 PB.f2.length cB2) → hiB2 ≤ W.heap.size → Lies loB3 hiB3 W (ints PB.f3) (.slice aB3 PB.f3.length cB3) → hiB3 ≤ W.heap.size → Calls Try.prog 36 #[(Value.agg #[.int .i64 PA.f0, .slice aA1 PA.f1.length cA1, .slice aA2 PA.f2.length cA2, .slice aA3 PA.f3.length cA3]), (Value.agg #[.int .i64 PB.f0, .slice aB1 PB.f1.length cB1, .slice aB2 PB.f2.length cB2, .slice aB3 PB.f3.length cB3])] W (fun e w' => e = .returned (.bool R) ∧ Below W.heap.size W w') := by
    intro W loA1 hiA1 aA1 cA1 loA2 hiA2 aA2 cA2 loA3 hiA3 aA3 cA3 loB1 hiB1 aB1 cB1 loB2 hiB2 aB2 cB2 loB3 hiB3 aB3 cB3 hA1 sA1 hA2 sA2 hA3 sA3 hB1 sB1 hB2 sB2 hB3 sB3
    rw [← hR]
    exact equal_spec PA PB W aA1 cA1 aA2 cA2 aA3 cA3 (St.of hA1 hA2 hA3 sA1 sA2 sA3) aB1 cB1 aB2 cB2 aB3 cB3 (St.of hB1 hB2 hB3 sB1 sB2 sB3) mA1 mA2 mA3 mB1 mB2 mB3
  have hI : ∀ (W : World) (loA1 hiA1 : Nat) (aA1 : Option Addr) (cA1 : Nat) (loA2 hiA2 : Nat) (aA2 : Option Addr) (cA2 : Nat) (loA3 hiA3 : Nat) (aA3 : Option Addr) (cA3 : Nat) (loB1 hiB1 : Nat) (aB1 : Option Addr) (cB1 : Nat) (loB2 hiB2 : Nat) (aB2 : Option Addr) (cB2 : Nat) (loB3 hiB3 : Nat) (aB3 : Option Addr) (cB3 : Nat), Lies loA1 hiA1 W (ints PA.f1) (.slice aA1 PA.f1.length cA1) → hiA1 ≤ W.heap.size → Lies loA2 hiA2 W (ints PA.f2) (.slice aA2 PA.f2.length cA2) → hiA2 ≤ W.heap.size → Lies loA3 hiA3 W (ints PA.f3) (.slice aA3 PA.f3.length cA3) → hiA3 ≤ W.heap.size → Lies loB1 hiB1 W (ints PB.f1) (.slice aB1 PB.f1.length cB1) → hiB1 ≤ W.heap.size → Lies loB2 hiB2 W (ints PB.f2) (.slice aB2 PB.f2.length cB2) → hiB2 ≤ W.heap.size → Lies loB3 hiB3 W (ints PB.f3) (.slice aB3 PB.f3.length cB3) → hiB3 ≤ W.heap.size → Calls Try.prog 17 #[(Value.agg #[.int .i64 PA.f0, .slice aA1 PA.f1.length cA1, .slice aA2 PA.f2.length cA2, .slice aA3 PA.f3.length cA3]), (Value.agg #[.int .i64 PB.f0, .slice aB1 PB.f1.length cB1, .slice aB2 PB.f2.length cB2, .slice aB3 PB.f3.length cB3])] W (fun e w' => e = .returned (.bool R) ∧ Below W.heap.size W w') := by
    intro W loA1 hiA1 aA1 cA1 loA2 hiA2 aA2 cA2 loA3 hiA3 aA3 cA3 loB1 hiB1 aB1 cB1 loB2 hiB2 aB2 cB2 loB3 hiB3 aB3 cB3 hA1 sA1 hA2 sA2 hA3 sA3 hB1 sB1 hB2 sB2 hB3 sB3
    rw [← hR]
    exact implC.equal PA PB W aA1 cA1 aA2 cA2 aA3 cA3 aB1 cB1 aB2 cB2 aB3 cB3 (St.of hA1 hA2 hA3 sA1 sA2 sA3) (St.of hB1 hB2 hB3 sB1 sB2 sB3) mA1 mA2 mA3 mB1 mB2 mB3
  clear hR
  go_upto_region 8 with fail
  go_cut [6] (fun s0 wx => ∃ (V : World) , V = wx ∧ s0 = .bool R ∧ Below w2.heap.size w2 V)
  case first =>
    have hq0 : w.heap.size ≤ w2.heap.size := hB2.size
    have hW0 : Below w2.heap.size w2 w2 := Below.refl _ _
    have ee0 : Below w2.heap.size w2 w2 := Below.refl _ _
    have ed0 : Below w2.heap.size w2 w2.drew := (Below.refl _ _).drew
    have ea0 := ed0
    have s3 : w2.drew.cell? ⟨w.heap.size, 0, none⟩ = some (.int .i64 PA.f0) ∧ w2.drew.cell? ⟨w.heap.size, 1, none⟩ = some (.slice aA1 PA.f1.length cA1) ∧ w2.drew.cell? ⟨w.heap.size, 2, none⟩ = some (.slice aA2 PA.f2.length cA2) ∧ w2.drew.cell? ⟨w.heap.size, 3, none⟩ = some (.slice aA3 PA.f3.length cA3) ∧ w2.drew.cell? ⟨w.heap.size + 1, 0, none⟩ = some (.int .i64 PB.f0) ∧ w2.drew.cell? ⟨w.heap.size + 1, 1, none⟩ = some (.slice aB1 PB.f1.length cB1) ∧ w2.drew.cell? ⟨w.heap.size + 1, 2, none⟩ = some (.slice aB2 PB.f2.length cB2) ∧ w2.drew.cell? ⟨w.heap.size + 1, 3, none⟩ = some (.slice aB3 PB.f3.length cB3) := ⟨(Blk.drew kA).at rfl, (Blk.drew kA).at rfl, (Blk.drew kA).at rfl, (Blk.drew kA).at rfl, (Blk.drew kB).at rfl, (Blk.drew kB).at rfl, (Blk.drew kB).at rfl, (Blk.drew kB).at rfl⟩
    go_wp2_with fail
    go_region_held3 (fun w' => w'.cell? ⟨w.heap.size, 0, none⟩ = some (.int .i64 PA.f0) ∧ w'.cell? ⟨w.heap.size, 1, none⟩ = some (.slice aA1 PA.f1.length cA1) ∧ w'.cell? ⟨w.heap.size, 2, none⟩ = some (.slice aA2 PA.f2.length cA2) ∧ w'.cell? ⟨w.heap.size, 3, none⟩ = some (.slice aA3 PA.f3.length cA3) ∧ w'.cell? ⟨w.heap.size + 1, 0, none⟩ = some (.int .i64 PB.f0) ∧ w'.cell? ⟨w.heap.size + 1, 1, none⟩ = some (.slice aB1 PB.f1.length cB1) ∧ w'.cell? ⟨w.heap.size + 1, 2, none⟩ = some (.slice aB2 PB.f2.length cB2) ∧ w'.cell? ⟨w.heap.size + 1, 3, none⟩ = some (.slice aB3 PB.f3.length cB3))
      (first | (with_reducible exact s3) | (with_reducible exact t3) | (with_reducible exact t4) | (with_reducible exact v3) | go_keep)
      (first
      | (go_at_call 27; (with_reducible (show Calls _ _ #[(Value.agg #[.int .i64 PA.f0, .slice aA1 PA.f1.length cA1, .slice aA2 PA.f2.length cA2, .slice aA3 PA.f3.length cA3])] _ _)); refine Calls.mono (gto_State (lo := 0) (hi := w.heap.size) PA (fA1.below (w := w2) (by first | (with_reducible exact ee0) | (with_reducible exact ed0) | (with_reducible exact ea0))) (fA2.below (w := w2) (by first | (with_reducible exact ee0) | (with_reducible exact ed0) | (with_reducible exact ea0))) (fA3.below (w := w2) (by first | (with_reducible exact ee0) | (with_reducible exact ed0) | (with_reducible exact ea0))) (Nat.le_trans hq0 (Below.size (B := w2.heap.size) (w := w2) (by first | (with_reducible exact ee0) | (with_reducible exact ed0) | (with_reducible exact ea0)))) (by omega) (by omega) (by omega)) ?_; rintro e u1 ⟨XA1, YA1, XA2, YA2, XA3, YA3, mA1, mA2, rfl, ho1, ho2, ho3, onA0, onA1, onA2, hb⟩; have hv1 : Below w2.heap.size w2 u1 := Below.trans (show Below w2.heap.size w2 _ from (by first | (with_reducible exact ee0) | (with_reducible exact ed0) | (with_reducible exact ea0))) (hb.mono (Below.size (B := w2.heap.size) (w := w2) (by first | (with_reducible exact ee0) | (with_reducible exact ed0) | (with_reducible exact ea0)))); have fA1 := fA1.below hv1; have fA2 := fA2.below hv1; have fA3 := fA3.below hv1; have fB1 := fB1.below hv1; have fB2 := fB2.below hv1; have fB3 := fB3.below hv1; have kA := kA.below hv1; have kB := kB.below hv1; have qA1 := Owns.lies (lo := 0) (hi := u1.heap.size) ho1 (fun t h => ⟨Nat.zero_le _, by have := h.2; omega⟩); have qA2 := Owns.lies (lo := 0) (hi := u1.heap.size) ho2 (fun t h => ⟨Nat.zero_le _, by have := h.2; omega⟩); have qA3 := Owns.lies (lo := 0) (hi := u1.heap.size) ho3 (fun t h => ⟨Nat.zero_le _, by have := h.2; omega⟩); clear ho1 ho2 ho3 onA0 onA1 onA2; have hq1 := Nat.le_trans hq0 hv1.size; have hz1 := hv1.size; have ee1 : Below u1.heap.size u1 u1 := Below.refl _ _; have ed1 := ee1; have ea1 := ee1; have hW1 := hW0.trans (hv1.mono hW0.size); have s3 : u1.cell? ⟨w.heap.size, 0, none⟩ = some (.int .i64 PA.f0) ∧ u1.cell? ⟨w.heap.size, 1, none⟩ = some (.slice aA1 PA.f1.length cA1) ∧ u1.cell? ⟨w.heap.size, 2, none⟩ = some (.slice aA2 PA.f2.length cA2) ∧ u1.cell? ⟨w.heap.size, 3, none⟩ = some (.slice aA3 PA.f3.length cA3) ∧ u1.cell? ⟨w.heap.size + 1, 0, none⟩ = some (.int .i64 PB.f0) ∧ u1.cell? ⟨w.heap.size + 1, 1, none⟩ = some (.slice aB1 PB.f1.length cB1) ∧ u1.cell? ⟨w.heap.size + 1, 2, none⟩ = some (.slice aB2 PB.f2.length cB2) ∧ u1.cell? ⟨w.heap.size + 1, 3, none⟩ = some (.slice aB3 PB.f3.length cB3) := ⟨(kA).at rfl, (kA).at rfl, (kA).at rfl, (kA).at rfl, (kB).at rfl, (kB).at rfl, (kB).at rfl, (kB).at rfl⟩; clear hb)
      | (go_at_call 27; (with_reducible (show Calls _ _ #[(Value.agg #[.int .i64 PB.f0, .slice aB1 PB.f1.length cB1, .slice aB2 PB.f2.length cB2, .slice aB3 PB.f3.length cB3])] _ _)); refine Calls.mono (gto_State (lo := 0) (hi := w.heap.size) PB (fB1.below (w := u1) (by first | (with_reducible exact ee1) | (with_reducible exact ed1) | (with_reducible exact ea1))) (fB2.below (w := u1) (by first | (with_reducible exact ee1) | (with_reducible exact ed1) | (with_reducible exact ea1))) (fB3.below (w := u1) (by first | (with_reducible exact ee1) | (with_reducible exact ed1) | (with_reducible exact ea1))) (Nat.le_trans hq1 (Below.size (B := u1.heap.size) (w := u1) (by first | (with_reducible exact ee1) | (with_reducible exact ed1) | (with_reducible exact ea1)))) (by omega) (by omega) (by omega)) ?_; rintro e u2 ⟨XB1, YB1, XB2, YB2, XB3, YB3, mB1, mB2, rfl, ho1, ho2, ho3, onB0, onB1, onB2, hb⟩; have hv2 : Below u1.heap.size u1 u2 := Below.trans (show Below u1.heap.size u1 _ from (by first | (with_reducible exact ee1) | (with_reducible exact ed1) | (with_reducible exact ea1))) (hb.mono (Below.size (B := u1.heap.size) (w := u1) (by first | (with_reducible exact ee1) | (with_reducible exact ed1) | (with_reducible exact ea1)))); have qA1 := Lies.below qA1 hv2; have qA2 := Lies.below qA2 hv2; have qA3 := Lies.below qA3 hv2; have fA1 := fA1.below hv2; have fA2 := fA2.below hv2; have fA3 := fA3.below hv2; have fB1 := fB1.below hv2; have fB2 := fB2.below hv2; have fB3 := fB3.below hv2; have kA := kA.below hv2; have kB := kB.below hv2; have qB1 := Owns.lies (lo := 0) (hi := u2.heap.size) ho1 (fun t h => ⟨Nat.zero_le _, by have := h.2; omega⟩); have qB2 := Owns.lies (lo := 0) (hi := u2.heap.size) ho2 (fun t h => ⟨Nat.zero_le _, by have := h.2; omega⟩); have qB3 := Owns.lies (lo := 0) (hi := u2.heap.size) ho3 (fun t h => ⟨Nat.zero_le _, by have := h.2; omega⟩); clear ho1 ho2 ho3 onB0 onB1 onB2; have hq2 := Nat.le_trans hq1 hv2.size; have hz2 := hv2.size; have ee2 : Below u2.heap.size u2 u2 := Below.refl _ _; have ed2 := ee2; have ea2 := ee2; have hW2 := hW1.trans (hv2.mono hW1.size); have s3 : u2.cell? ⟨w.heap.size, 0, none⟩ = some (.int .i64 PA.f0) ∧ u2.cell? ⟨w.heap.size, 1, none⟩ = some (.slice aA1 PA.f1.length cA1) ∧ u2.cell? ⟨w.heap.size, 2, none⟩ = some (.slice aA2 PA.f2.length cA2) ∧ u2.cell? ⟨w.heap.size, 3, none⟩ = some (.slice aA3 PA.f3.length cA3) ∧ u2.cell? ⟨w.heap.size + 1, 0, none⟩ = some (.int .i64 PB.f0) ∧ u2.cell? ⟨w.heap.size + 1, 1, none⟩ = some (.slice aB1 PB.f1.length cB1) ∧ u2.cell? ⟨w.heap.size + 1, 2, none⟩ = some (.slice aB2 PB.f2.length cB2) ∧ u2.cell? ⟨w.heap.size + 1, 3, none⟩ = some (.slice aB3 PB.f3.length cB3) := ⟨(kA).at rfl, (kA).at rfl, (kA).at rfl, (kA).at rfl, (kB).at rfl, (kB).at rfl, (kB).at rfl, (kB).at rfl⟩; clear hb)
      | (go_at_call 36; refine Calls.mono (hS _ _ _ _ _ _ _ _ _ _ _ _ _ _ _ _ _ _ _ _ _ _ _ _ _ (Lies.below (w := u2) qA1 (by first | (with_reducible exact ee2) | (with_reducible exact ed2) | (with_reducible exact ea2))) (Nat.le_trans (by omega) (Below.size (B := u2.heap.size) (w := u2) (by first | (with_reducible exact ee2) | (with_reducible exact ed2) | (with_reducible exact ea2)))) (Lies.below (w := u2) qA2 (by first | (with_reducible exact ee2) | (with_reducible exact ed2) | (with_reducible exact ea2))) (Nat.le_trans (by omega) (Below.size (B := u2.heap.size) (w := u2) (by first | (with_reducible exact ee2) | (with_reducible exact ed2) | (with_reducible exact ea2)))) (Lies.below (w := u2) qA3 (by first | (with_reducible exact ee2) | (with_reducible exact ed2) | (with_reducible exact ea2))) (Nat.le_trans (by omega) (Below.size (B := u2.heap.size) (w := u2) (by first | (with_reducible exact ee2) | (with_reducible exact ed2) | (with_reducible exact ea2)))) (Lies.below (w := u2) qB1 (by first | (with_reducible exact ee2) | (with_reducible exact ed2) | (with_reducible exact ea2))) (Nat.le_trans (by omega) (Below.size (B := u2.heap.size) (w := u2) (by first | (with_reducible exact ee2) | (with_reducible exact ed2) | (with_reducible exact ea2)))) (Lies.below (w := u2) qB2 (by first | (with_reducible exact ee2) | (with_reducible exact ed2) | (with_reducible exact ea2))) (Nat.le_trans (by omega) (Below.size (B := u2.heap.size) (w := u2) (by first | (with_reducible exact ee2) | (with_reducible exact ed2) | (with_reducible exact ea2)))) (Lies.below (w := u2) qB3 (by first | (with_reducible exact ee2) | (with_reducible exact ed2) | (with_reducible exact ea2))) (Nat.le_trans (by omega) (Below.size (B := u2.heap.size) (w := u2) (by first | (with_reducible exact ee2) | (with_reducible exact ed2) | (with_reducible exact ea2))))) ?_; rintro e u3 ⟨rfl, hb⟩; have hv3 : Below u2.heap.size u2 u3 := Below.trans (show Below u2.heap.size u2 _ from (by first | (with_reducible exact ee2) | (with_reducible exact ed2) | (with_reducible exact ea2))) (hb.mono (Below.size (B := u2.heap.size) (w := u2) (by first | (with_reducible exact ee2) | (with_reducible exact ed2) | (with_reducible exact ea2)))); have qA1 := Lies.below qA1 hv3; have qA2 := Lies.below qA2 hv3; have qA3 := Lies.below qA3 hv3; have qB1 := Lies.below qB1 hv3; have qB2 := Lies.below qB2 hv3; have qB3 := Lies.below qB3 hv3; have fA1 := fA1.below hv3; have fA2 := fA2.below hv3; have fA3 := fA3.below hv3; have fB1 := fB1.below hv3; have fB2 := fB2.below hv3; have fB3 := fB3.below hv3; have kA := kA.below hv3; have kB := kB.below hv3; have hq3 := Nat.le_trans hq2 hv3.size; have hz3 := hv3.size; have ee3 : Below u3.heap.size u3 u3 := Below.refl _ _; have ed3 := ee3; have ea3 := ee3; have hW3 := hW2.trans (hv3.mono hW2.size); have s3 : u3.cell? ⟨w.heap.size, 0, none⟩ = some (.int .i64 PA.f0) ∧ u3.cell? ⟨w.heap.size, 1, none⟩ = some (.slice aA1 PA.f1.length cA1) ∧ u3.cell? ⟨w.heap.size, 2, none⟩ = some (.slice aA2 PA.f2.length cA2) ∧ u3.cell? ⟨w.heap.size, 3, none⟩ = some (.slice aA3 PA.f3.length cA3) ∧ u3.cell? ⟨w.heap.size + 1, 0, none⟩ = some (.int .i64 PB.f0) ∧ u3.cell? ⟨w.heap.size + 1, 1, none⟩ = some (.slice aB1 PB.f1.length cB1) ∧ u3.cell? ⟨w.heap.size + 1, 2, none⟩ = some (.slice aB2 PB.f2.length cB2) ∧ u3.cell? ⟨w.heap.size + 1, 3, none⟩ = some (.slice aB3 PB.f3.length cB3) := ⟨(kA).at rfl, (kA).at rfl, (kA).at rfl, (kA).at rfl, (kB).at rfl, (kB).at rfl, (kB).at rfl, (kB).at rfl⟩; clear hb)
      )
    all_goals
      go_wp2_with fail
      go_meet
      case rel =>
        first
        | exact ⟨_, rfl, rfl, hW3⟩
        | exact ⟨_, rfl, rfl, hW3⟩
  case rest =>
  obtain ⟨w3, rfl, rfl, hb3⟩ := hcut
  have hs3 : w2.heap.size ≤ w3.heap.size := hb3.size
  have fA1 := fA1.below hb3
  have fA2 := fA2.below hb3
  have fA3 := fA3.below hb3
  have fB1 := fB1.below hb3
  have fB2 := fB2.below hb3
  have fB3 := fB3.below hb3
  have kA := kA.below hb3
  have kB := kB.below hb3
  have hB3 := hB2.trans (hb3.mono hB2.size)
  clear hb3
  go_upto_region 9 with fail
  go_cut [7] (fun s0 wx => ∃ (V : World) (bA : Nat) (xA1 : Option Addr) (yA1 : Nat) (SA1 : Nat → Prop) (xA2 : Option Addr) (yA2 : Nat) (SA2 : Nat → Prop) (xA3 : Option Addr) (yA3 : Nat) (SA3 : Nat → Prop), V = wx ∧ s0 = .pointer (some ⟨bA, 0, none⟩) ∧ Blk 27 bA [Value.int .i64 PA.f0, .slice xA1 PA.f1.length yA1, .slice xA2 PA.f2.length yA2, .slice xA3 PA.f3.length yA3] V ∧ (w.heap.size + 2 ≤ bA) ∧ bA < V.heap.size ∧ (w3.heap.size ≤ bA) ∧ Owns V (ints PA.f1) (.slice xA1 PA.f1.length yA1) SA1 ∧ Owns V (ints PA.f2) (.slice xA2 PA.f2.length yA2) SA2 ∧ Owns V (ints PA.f3) (.slice xA3 PA.f3.length yA3) SA3 ∧ (∀ t, SA1 t → w3.heap.size ≤ t ∧ t < V.heap.size) ∧ (∀ t, SA2 t → w3.heap.size ≤ t ∧ t < V.heap.size) ∧ (∀ t, SA3 t → w3.heap.size ≤ t ∧ t < V.heap.size) ∧ (∀ t, SA1 t → ¬ SA2 t) ∧ (∀ t, SA1 t → ¬ SA3 t) ∧ (∀ t, SA2 t → ¬ SA3 t) ∧ ¬ SA1 bA ∧ ¬ SA2 bA ∧ ¬ SA3 bA ∧ Below w3.heap.size w3 V)
  case first =>
    have cbA0 : w3.cell? ⟨w.heap.size, 0, none⟩ = some (.int .i64 PA.f0) := kA.at rfl
    have cbA1 : w3.cell? ⟨w.heap.size, 1, none⟩ = some (.slice aA1 PA.f1.length cA1) := kA.at rfl
    have cbA2 : w3.cell? ⟨w.heap.size, 2, none⟩ = some (.slice aA2 PA.f2.length cA2) := kA.at rfl
    have cbA3 : w3.cell? ⟨w.heap.size, 3, none⟩ = some (.slice aA3 PA.f3.length cA3) := kA.at rfl
    go_wp2_with fail
    go_at_call 27
    refine Calls.mono (gto_State (lo := 0) (hi := w.heap.size) PA fA1 fA2 fA3 hB3.size (by omega) (by omega) (by omega)) ?_
    rintro e u1 ⟨x1, y1, x2, y2, x3, y3, m1, m2, rfl, ho1, ho2, ho3, oo0, oo1, oo2, hb⟩
    have hz := hb.size
    go_wp2_with fail
    go_meet
    case rel => exact ⟨_, _, _, _, Span (w3.heap.size) (m1), _, _, Span (m1) (m2), _, _, Span (m2) (u1.heap.size), rfl, rfl, Blk.new _ [Value.int .i64 PA.f0, .slice x1 PA.f1.length y1, .slice x2 PA.f2.length y2, .slice x3 PA.f3.length y3] u1, (by omega), (by rw [gsize_alloc]; omega), (by omega), (Owns.below ho1 ((Below.refl _ _).alloc (Nat.le_refl _) _)), (Owns.below ho2 ((Below.refl _ _).alloc (Nat.le_refl _) _)), (Owns.below ho3 ((Below.refl _ _).alloc (Nat.le_refl _) _)), (fun t h => ⟨by have := h.1; omega, by have := h.2; rw [gsize_alloc]; omega⟩), (fun t h => ⟨by have := h.1; omega, by have := h.2; rw [gsize_alloc]; omega⟩), (fun t h => ⟨by have := h.1; omega, by have := h.2; rw [gsize_alloc]; omega⟩), (fun t h h' => by have := h.2; have := h'.1; omega), (fun t h h' => by have := h.2; have := h'.1; omega), (fun t h h' => by have := h.2; have := h'.1; omega), (fun h => by have := h.2; omega), (fun h => by have := h.2; omega), (fun h => by have := h.2; omega), (hb.alloc hb.size _)⟩
  case rest =>
  obtain ⟨w4, bxA, xxA1, yxA1, SxA1, xxA2, yxA2, SxA2, xxA3, yxA3, SxA3, rfl, rfl, BxA, lbxA, ubxA, mbxA, rxA1, rxA2, rxA3, urxA1, urxA2, urxA3, udxA_0_1, udxA_0_2, udxA_1_2, nbxA1_A, nbxA2_A, nbxA3_A, hb4⟩ := hcut
  have hs4 : w3.heap.size ≤ w4.heap.size := hb4.size
  have fA1 := fA1.below hb4
  have fA2 := fA2.below hb4
  have fA3 := fA3.below hb4
  have fB1 := fB1.below hb4
  have fB2 := fB2.below hb4
  have fB3 := fB3.below hb4
  have kA := kA.below hb4
  have kB := kB.below hb4
  have hB4 := hB3.trans (hb4.mono hB3.size)
  clear hb4
  go_upto_region 10 with fail
  go_cut [8] (fun s0 wx => ∃ (V : World) (bB : Nat) (xB1 : Option Addr) (yB1 : Nat) (SB1 : Nat → Prop) (xB2 : Option Addr) (yB2 : Nat) (SB2 : Nat → Prop) (xB3 : Option Addr) (yB3 : Nat) (SB3 : Nat → Prop), V = wx ∧ s0 = .pointer (some ⟨bB, 0, none⟩) ∧ Blk 27 bB [Value.int .i64 PB.f0, .slice xB1 PB.f1.length yB1, .slice xB2 PB.f2.length yB2, .slice xB3 PB.f3.length yB3] V ∧ (w.heap.size + 2 ≤ bB) ∧ bB < V.heap.size ∧ (w4.heap.size ≤ bB) ∧ Owns V (ints PB.f1) (.slice xB1 PB.f1.length yB1) SB1 ∧ Owns V (ints PB.f2) (.slice xB2 PB.f2.length yB2) SB2 ∧ Owns V (ints PB.f3) (.slice xB3 PB.f3.length yB3) SB3 ∧ (∀ t, SB1 t → w4.heap.size ≤ t ∧ t < V.heap.size) ∧ (∀ t, SB2 t → w4.heap.size ≤ t ∧ t < V.heap.size) ∧ (∀ t, SB3 t → w4.heap.size ≤ t ∧ t < V.heap.size) ∧ (∀ t, SB1 t → ¬ SB2 t) ∧ (∀ t, SB1 t → ¬ SB3 t) ∧ (∀ t, SB2 t → ¬ SB3 t) ∧ ¬ SB1 bB ∧ ¬ SB2 bB ∧ ¬ SB3 bB ∧ Below w4.heap.size w4 V)
  case first =>
    have cbB0 : w4.cell? ⟨w.heap.size + 1, 0, none⟩ = some (.int .i64 PB.f0) := kB.at rfl
    have cbB1 : w4.cell? ⟨w.heap.size + 1, 1, none⟩ = some (.slice aB1 PB.f1.length cB1) := kB.at rfl
    have cbB2 : w4.cell? ⟨w.heap.size + 1, 2, none⟩ = some (.slice aB2 PB.f2.length cB2) := kB.at rfl
    have cbB3 : w4.cell? ⟨w.heap.size + 1, 3, none⟩ = some (.slice aB3 PB.f3.length cB3) := kB.at rfl
    go_wp2_with fail
    go_at_call 27
    refine Calls.mono (gto_State (lo := 0) (hi := w.heap.size) PB fB1 fB2 fB3 hB4.size (by omega) (by omega) (by omega)) ?_
    rintro e u1 ⟨x1, y1, x2, y2, x3, y3, m1, m2, rfl, ho1, ho2, ho3, oo0, oo1, oo2, hb⟩
    have hz := hb.size
    go_wp2_with fail
    go_meet
    case rel => exact ⟨_, _, _, _, Span (w4.heap.size) (m1), _, _, Span (m1) (m2), _, _, Span (m2) (u1.heap.size), rfl, rfl, Blk.new _ [Value.int .i64 PB.f0, .slice x1 PB.f1.length y1, .slice x2 PB.f2.length y2, .slice x3 PB.f3.length y3] u1, (by omega), (by rw [gsize_alloc]; omega), (by omega), (Owns.below ho1 ((Below.refl _ _).alloc (Nat.le_refl _) _)), (Owns.below ho2 ((Below.refl _ _).alloc (Nat.le_refl _) _)), (Owns.below ho3 ((Below.refl _ _).alloc (Nat.le_refl _) _)), (fun t h => ⟨by have := h.1; omega, by have := h.2; rw [gsize_alloc]; omega⟩), (fun t h => ⟨by have := h.1; omega, by have := h.2; rw [gsize_alloc]; omega⟩), (fun t h => ⟨by have := h.1; omega, by have := h.2; rw [gsize_alloc]; omega⟩), (fun t h h' => by have := h.2; have := h'.1; omega), (fun t h h' => by have := h.2; have := h'.1; omega), (fun t h h' => by have := h.2; have := h'.1; omega), (fun h => by have := h.2; omega), (fun h => by have := h.2; omega), (fun h => by have := h.2; omega), (hb.alloc hb.size _)⟩
  case rest =>
  obtain ⟨w5, bxB, xxB1, yxB1, SxB1, xxB2, yxB2, SxB2, xxB3, yxB3, SxB3, rfl, rfl, BxB, lbxB, ubxB, mbxB, rxB1, rxB2, rxB3, urxB1, urxB2, urxB3, udxB_0_1, udxB_0_2, udxB_1_2, nbxB1_B, nbxB2_B, nbxB3_B, hb5⟩ := hcut
  have hs5 : w4.heap.size ≤ w5.heap.size := hb5.size
  have fA1 := fA1.below hb5
  have fA2 := fA2.below hb5
  have fA3 := fA3.below hb5
  have fB1 := fB1.below hb5
  have fB2 := fB2.below hb5
  have fB3 := fB3.below hb5
  have kA := kA.below hb5
  have kB := kB.below hb5
  have rxA1 := Owns.below rxA1 hb5
  have rxA2 := Owns.below rxA2 hb5
  have rxA3 := Owns.below rxA3 hb5
  have BxA := BxA.below hb5
  have hB5 := hB4.trans (hb5.mono hB4.size)
  clear hb5
  go_upto_region 11 with fail
  go_cut [9] (fun s0 wx => ∃ (V : World) , V = wx ∧ s0 = .bool R ∧ Below w5.heap.size w5 V)
  case first =>
    have hq0 : w.heap.size ≤ w5.heap.size := hB5.size
    have hW0 : Below w5.heap.size w5 w5 := Below.refl _ _
    have ee0 : Below w5.heap.size w5 w5 := Below.refl _ _
    have cxA0 : w5.cell? ⟨bxA, 0, none⟩ = some (.int .i64 PA.f0) := BxA.at rfl
    have cxA1 : w5.cell? ⟨bxA, 1, none⟩ = some (.slice xxA1 PA.f1.length yxA1) := BxA.at rfl
    have cxA2 : w5.cell? ⟨bxA, 2, none⟩ = some (.slice xxA2 PA.f2.length yxA2) := BxA.at rfl
    have cxA3 : w5.cell? ⟨bxA, 3, none⟩ = some (.slice xxA3 PA.f3.length yxA3) := BxA.at rfl
    have cxB0 : w5.cell? ⟨bxB, 0, none⟩ = some (.int .i64 PB.f0) := BxB.at rfl
    have cxB1 : w5.cell? ⟨bxB, 1, none⟩ = some (.slice xxB1 PB.f1.length yxB1) := BxB.at rfl
    have cxB2 : w5.cell? ⟨bxB, 2, none⟩ = some (.slice xxB2 PB.f2.length yxB2) := BxB.at rfl
    have cxB3 : w5.cell? ⟨bxB, 3, none⟩ = some (.slice xxB3 PB.f3.length yxB3) := BxB.at rfl
    go_wp2_with fail
    go_at_call 17
    refine Calls.mono (hI _ _ _ _ _ _ _ _ _ _ _ _ _ _ _ _ _ _ _ _ _ _ _ _ _ (Lies.below (w := w5) (Owns.lies rxA1 (hi := w5.heap.size) (lo := 0) (fun t h => ⟨Nat.zero_le _, by have := urxA1 t h; omega⟩)) ee0) (Nat.le_trans (by omega) (Below.size (B := w5.heap.size) (w := w5) ee0)) (Lies.below (w := w5) (Owns.lies rxA2 (hi := w5.heap.size) (lo := 0) (fun t h => ⟨Nat.zero_le _, by have := urxA2 t h; omega⟩)) ee0) (Nat.le_trans (by omega) (Below.size (B := w5.heap.size) (w := w5) ee0)) (Lies.below (w := w5) (Owns.lies rxA3 (hi := w5.heap.size) (lo := 0) (fun t h => ⟨Nat.zero_le _, by have := urxA3 t h; omega⟩)) ee0) (Nat.le_trans (by omega) (Below.size (B := w5.heap.size) (w := w5) ee0)) (Lies.below (w := w5) (Owns.lies rxB1 (hi := w5.heap.size) (lo := 0) (fun t h => ⟨Nat.zero_le _, by have := urxB1 t h; omega⟩)) ee0) (Nat.le_trans (by omega) (Below.size (B := w5.heap.size) (w := w5) ee0)) (Lies.below (w := w5) (Owns.lies rxB2 (hi := w5.heap.size) (lo := 0) (fun t h => ⟨Nat.zero_le _, by have := urxB2 t h; omega⟩)) ee0) (Nat.le_trans (by omega) (Below.size (B := w5.heap.size) (w := w5) ee0)) (Lies.below (w := w5) (Owns.lies rxB3 (hi := w5.heap.size) (lo := 0) (fun t h => ⟨Nat.zero_le _, by have := urxB3 t h; omega⟩)) ee0) (Nat.le_trans (by omega) (Below.size (B := w5.heap.size) (w := w5) ee0))) ?_
    rintro e u1 ⟨rfl, hb⟩
    have hv1 : Below w5.heap.size w5 u1 := Below.trans (show Below w5.heap.size w5 _ from ee0) (hb.mono (Below.size (B := w5.heap.size) (w := w5) ee0))
    have fA1 := fA1.below hv1
    have fA2 := fA2.below hv1
    have fA3 := fA3.below hv1
    have fB1 := fB1.below hv1
    have fB2 := fB2.below hv1
    have fB3 := fB3.below hv1
    have kA := kA.below hv1
    have kB := kB.below hv1
    have BxA := BxA.below hv1
    have BxB := BxB.below hv1
    have rxA1 := Owns.below rxA1 hv1
    have rxA2 := Owns.below rxA2 hv1
    have rxA3 := Owns.below rxA3 hv1
    have rxB1 := Owns.below rxB1 hv1
    have rxB2 := Owns.below rxB2 hv1
    have rxB3 := Owns.below rxB3 hv1
    have hq1 := Nat.le_trans hq0 hv1.size
    have hz1 := hv1.size
    have ee1 : Below u1.heap.size u1 u1 := Below.refl _ _
    have hW1 := hW0.trans (hv1.mono hW0.size)
    have s3 : u1.cell? ⟨bxA, 0, none⟩ = some (.int .i64 PA.f0) ∧ u1.cell? ⟨bxA, 1, none⟩ = some (.slice xxA1 PA.f1.length yxA1) ∧ u1.cell? ⟨bxA, 2, none⟩ = some (.slice xxA2 PA.f2.length yxA2) ∧ u1.cell? ⟨bxA, 3, none⟩ = some (.slice xxA3 PA.f3.length yxA3) ∧ u1.cell? ⟨bxB, 0, none⟩ = some (.int .i64 PB.f0) ∧ u1.cell? ⟨bxB, 1, none⟩ = some (.slice xxB1 PB.f1.length yxB1) ∧ u1.cell? ⟨bxB, 2, none⟩ = some (.slice xxB2 PB.f2.length yxB2) ∧ u1.cell? ⟨bxB, 3, none⟩ = some (.slice xxB3 PB.f3.length yxB3) := ⟨(BxA).at rfl, (BxA).at rfl, (BxA).at rfl, (BxA).at rfl, (BxB).at rfl, (BxB).at rfl, (BxB).at rfl, (BxB).at rfl⟩
    clear hb
    have cxA0 : u1.cell? ⟨bxA, 0, none⟩ = some (.int .i64 PA.f0) := BxA.at rfl
    have cxA1 : u1.cell? ⟨bxA, 1, none⟩ = some (.slice xxA1 PA.f1.length yxA1) := BxA.at rfl
    have cxA2 : u1.cell? ⟨bxA, 2, none⟩ = some (.slice xxA2 PA.f2.length yxA2) := BxA.at rfl
    have cxA3 : u1.cell? ⟨bxA, 3, none⟩ = some (.slice xxA3 PA.f3.length yxA3) := BxA.at rfl
    have cxB0 : u1.cell? ⟨bxB, 0, none⟩ = some (.int .i64 PB.f0) := BxB.at rfl
    have cxB1 : u1.cell? ⟨bxB, 1, none⟩ = some (.slice xxB1 PB.f1.length yxB1) := BxB.at rfl
    have cxB2 : u1.cell? ⟨bxB, 2, none⟩ = some (.slice xxB2 PB.f2.length yxB2) := BxB.at rfl
    have cxB3 : u1.cell? ⟨bxB, 3, none⟩ = some (.slice xxB3 PB.f3.length yxB3) := BxB.at rfl
    go_wp2_with fail
    go_meet
    case rel => exact ⟨_, rfl, rfl, hW1⟩
  case rest =>
  obtain ⟨w6, rfl, rfl, hb6⟩ := hcut
  have hs6 : w5.heap.size ≤ w6.heap.size := hb6.size
  have fA1 := fA1.below hb6
  have fA2 := fA2.below hb6
  have fA3 := fA3.below hb6
  have fB1 := fB1.below hb6
  have fB2 := fB2.below hb6
  have fB3 := fB3.below hb6
  have kA := kA.below hb6
  have kB := kB.below hb6
  have rxA1 := Owns.below rxA1 hb6
  have rxA2 := Owns.below rxA2 hb6
  have rxA3 := Owns.below rxA3 hb6
  have rxB1 := Owns.below rxB1 hb6
  have rxB2 := Owns.below rxB2 hb6
  have rxB3 := Owns.below rxB3 hb6
  have BxA := BxA.below hb6
  have BxB := BxB.below hb6
  have hB6 := hB5.trans (hb6.mono hB5.size)
  clear hb6
  go_upto_region 14 with fail
  go_cut [39] (fun s0 wx => ∃ (V : World), V = wx ∧ s0 = .bool false ∧ Below w6.heap.size w6 V)
  case first =>
    have hq0 : w.heap.size ≤ w6.heap.size := hB6.size
    have hW0 : Below w6.heap.size w6 w6 := Below.refl _ _
    have ee0 : Below w6.heap.size w6 w6 := Below.refl _ _
    have ed0 : Below w6.heap.size w6 w6.drew := (Below.refl _ _).drew
    have s3 : w6.drew.cell? ⟨w.heap.size, 0, none⟩ = some (.int .i64 PA.f0) ∧ w6.drew.cell? ⟨w.heap.size, 1, none⟩ = some (.slice aA1 PA.f1.length cA1) ∧ w6.drew.cell? ⟨w.heap.size, 2, none⟩ = some (.slice aA2 PA.f2.length cA2) ∧ w6.drew.cell? ⟨w.heap.size, 3, none⟩ = some (.slice aA3 PA.f3.length cA3) ∧ w6.drew.cell? ⟨bxA, 0, none⟩ = some (.int .i64 PA.f0) ∧ w6.drew.cell? ⟨bxA, 1, none⟩ = some (.slice xxA1 PA.f1.length yxA1) ∧ w6.drew.cell? ⟨bxA, 2, none⟩ = some (.slice xxA2 PA.f2.length yxA2) ∧ w6.drew.cell? ⟨bxA, 3, none⟩ = some (.slice xxA3 PA.f3.length yxA3) := ⟨(Blk.drew kA).at rfl, (Blk.drew kA).at rfl, (Blk.drew kA).at rfl, (Blk.drew kA).at rfl, (Blk.drew BxA).at rfl, (Blk.drew BxA).at rfl, (Blk.drew BxA).at rfl, (Blk.drew BxA).at rfl⟩
    go_wp2_with fail
    go_region_held3 (fun w' => w'.cell? ⟨w.heap.size, 0, none⟩ = some (.int .i64 PA.f0) ∧ w'.cell? ⟨w.heap.size, 1, none⟩ = some (.slice aA1 PA.f1.length cA1) ∧ w'.cell? ⟨w.heap.size, 2, none⟩ = some (.slice aA2 PA.f2.length cA2) ∧ w'.cell? ⟨w.heap.size, 3, none⟩ = some (.slice aA3 PA.f3.length cA3) ∧ w'.cell? ⟨bxA, 0, none⟩ = some (.int .i64 PA.f0) ∧ w'.cell? ⟨bxA, 1, none⟩ = some (.slice xxA1 PA.f1.length yxA1) ∧ w'.cell? ⟨bxA, 2, none⟩ = some (.slice xxA2 PA.f2.length yxA2) ∧ w'.cell? ⟨bxA, 3, none⟩ = some (.slice xxA3 PA.f3.length yxA3))
      (first | (with_reducible exact s3) | go_keep)
      (first
      | (go_at_call 27; refine Calls.mono (gto_State (lo := 0) (hi := w.heap.size) PA (fA1.below (w := w6) (by first | (with_reducible exact ee0) | (with_reducible exact ed0))) (fA2.below (w := w6) (by first | (with_reducible exact ee0) | (with_reducible exact ed0))) (fA3.below (w := w6) (by first | (with_reducible exact ee0) | (with_reducible exact ed0))) (Nat.le_trans hq0 (Below.size (B := w6.heap.size) (w := w6) (by first | (with_reducible exact ee0) | (with_reducible exact ed0)))) (by omega) (by omega) (by omega)) ?_; rintro e u1 ⟨XA1, YA1, XA2, YA2, XA3, YA3, mA1, mA2, rfl, ho1, ho2, ho3, onA0, onA1, onA2, hb⟩; have hv1 : Below w6.heap.size w6 u1 := Below.trans (show Below w6.heap.size w6 _ from (by first | (with_reducible exact ee0) | (with_reducible exact ed0))) (hb.mono (Below.size (B := w6.heap.size) (w := w6) (by first | (with_reducible exact ee0) | (with_reducible exact ed0)))); have fA1 := fA1.below hv1; have fA2 := fA2.below hv1; have fA3 := fA3.below hv1; have fB1 := fB1.below hv1; have fB2 := fB2.below hv1; have fB3 := fB3.below hv1; have kA := kA.below hv1; have BxA := BxA.below hv1; have rxA1 := Owns.below rxA1 hv1; have rxA2 := Owns.below rxA2 hv1; have rxA3 := Owns.below rxA3 hv1; have qA1 := Owns.lies (lo := 0) (hi := u1.heap.size) ho1 (fun t h => ⟨Nat.zero_le _, by have := h.2; omega⟩); have qA2 := Owns.lies (lo := 0) (hi := u1.heap.size) ho2 (fun t h => ⟨Nat.zero_le _, by have := h.2; omega⟩); have qA3 := Owns.lies (lo := 0) (hi := u1.heap.size) ho3 (fun t h => ⟨Nat.zero_le _, by have := h.2; omega⟩); clear ho1 ho2 ho3 onA0 onA1 onA2; have hq1 := Nat.le_trans hq0 hv1.size; have hz1 := hv1.size; have ee1 : Below u1.heap.size u1 u1 := Below.refl _ _; have ed1 := ee1; have hW1 := hW0.trans (hv1.mono hW0.size); have s3 : u1.cell? ⟨w.heap.size, 0, none⟩ = some (.int .i64 PA.f0) ∧ u1.cell? ⟨w.heap.size, 1, none⟩ = some (.slice aA1 PA.f1.length cA1) ∧ u1.cell? ⟨w.heap.size, 2, none⟩ = some (.slice aA2 PA.f2.length cA2) ∧ u1.cell? ⟨w.heap.size, 3, none⟩ = some (.slice aA3 PA.f3.length cA3) ∧ u1.cell? ⟨bxA, 0, none⟩ = some (.int .i64 PA.f0) ∧ u1.cell? ⟨bxA, 1, none⟩ = some (.slice xxA1 PA.f1.length yxA1) ∧ u1.cell? ⟨bxA, 2, none⟩ = some (.slice xxA2 PA.f2.length yxA2) ∧ u1.cell? ⟨bxA, 3, none⟩ = some (.slice xxA3 PA.f3.length yxA3) := ⟨(kA).at rfl, (kA).at rfl, (kA).at rfl, (kA).at rfl, (BxA).at rfl, (BxA).at rfl, (BxA).at rfl, (BxA).at rfl⟩; clear hb)
      | (go_at_call 22; refine Calls.mono (geq_State PA (Lies.below (w := u1) (Owns.lies rxA1 (lo := 0) (hi := u1.heap.size) (fun t h => ⟨Nat.zero_le _, by have := urxA1 t h; omega⟩)) (by first | (with_reducible exact ee1) | (with_reducible exact ed1))) (Lies.below (w := u1) (Owns.lies rxA2 (lo := 0) (hi := u1.heap.size) (fun t h => ⟨Nat.zero_le _, by have := urxA2 t h; omega⟩)) (by first | (with_reducible exact ee1) | (with_reducible exact ed1))) (Lies.below (w := u1) (Owns.lies rxA3 (lo := 0) (hi := u1.heap.size) (fun t h => ⟨Nat.zero_le _, by have := urxA3 t h; omega⟩)) (by first | (with_reducible exact ee1) | (with_reducible exact ed1))) (Lies.below (w := u1) qA1 (by first | (with_reducible exact ee1) | (with_reducible exact ed1))) (Lies.below (w := u1) qA2 (by first | (with_reducible exact ee1) | (with_reducible exact ed1))) (Lies.below (w := u1) qA3 (by first | (with_reducible exact ee1) | (with_reducible exact ed1))) (Below.size (B := u1.heap.size) (w := u1) (by first | (with_reducible exact ee1) | (with_reducible exact ed1))) (Below.size (B := u1.heap.size) (w := u1) (by first | (with_reducible exact ee1) | (with_reducible exact ed1)))) ?_; rintro e u2 ⟨rfl, hb⟩; have hv2 : Below u1.heap.size u1 u2 := Below.trans (show Below u1.heap.size u1 _ from (by first | (with_reducible exact ee1) | (with_reducible exact ed1))) (hb.mono (Below.size (B := u1.heap.size) (w := u1) (by first | (with_reducible exact ee1) | (with_reducible exact ed1)))); have fA1 := fA1.below hv2; have fA2 := fA2.below hv2; have fA3 := fA3.below hv2; have fB1 := fB1.below hv2; have fB2 := fB2.below hv2; have fB3 := fB3.below hv2; have kA := kA.below hv2; have BxA := BxA.below hv2; have rxA1 := Owns.below rxA1 hv2; have rxA2 := Owns.below rxA2 hv2; have rxA3 := Owns.below rxA3 hv2; have hq2 := Nat.le_trans hq1 hv2.size; have hz2 := hv2.size; have ee2 : Below u2.heap.size u2 u2 := Below.refl _ _; have ed2 := ee2; have hW2 := hW1.trans (hv2.mono hW1.size); have s3 : u2.cell? ⟨w.heap.size, 0, none⟩ = some (.int .i64 PA.f0) ∧ u2.cell? ⟨w.heap.size, 1, none⟩ = some (.slice aA1 PA.f1.length cA1) ∧ u2.cell? ⟨w.heap.size, 2, none⟩ = some (.slice aA2 PA.f2.length cA2) ∧ u2.cell? ⟨w.heap.size, 3, none⟩ = some (.slice aA3 PA.f3.length cA3) ∧ u2.cell? ⟨bxA, 0, none⟩ = some (.int .i64 PA.f0) ∧ u2.cell? ⟨bxA, 1, none⟩ = some (.slice xxA1 PA.f1.length yxA1) ∧ u2.cell? ⟨bxA, 2, none⟩ = some (.slice xxA2 PA.f2.length yxA2) ∧ u2.cell? ⟨bxA, 3, none⟩ = some (.slice xxA3 PA.f3.length yxA3) := ⟨(kA).at rfl, (kA).at rfl, (kA).at rfl, (kA).at rfl, (BxA).at rfl, (BxA).at rfl, (BxA).at rfl, (BxA).at rfl⟩; clear hb)
      )
    all_goals
      go_wp2_with fail
      go_meet
      case rel => exact ⟨_, rfl, rfl, hW2⟩
  case rest =>
  obtain ⟨w7, rfl, rfl, hb7⟩ := hcut
  have hs7 : w6.heap.size ≤ w7.heap.size := hb7.size
  have fA1 := fA1.below hb7
  have fA2 := fA2.below hb7
  have fA3 := fA3.below hb7
  have fB1 := fB1.below hb7
  have fB2 := fB2.below hb7
  have fB3 := fB3.below hb7
  have kA := kA.below hb7
  have kB := kB.below hb7
  have rxA1 := Owns.below rxA1 hb7
  have rxA2 := Owns.below rxA2 hb7
  have rxA3 := Owns.below rxA3 hb7
  have rxB1 := Owns.below rxB1 hb7
  have rxB2 := Owns.below rxB2 hb7
  have rxB3 := Owns.below rxB3 hb7
  have BxA := BxA.below hb7
  have BxB := BxB.below hb7
  have hB7 := hB6.trans (hb7.mono hB6.size)
  clear hb7
  go_upto_region 16 with fail
  go_cut [44] (fun s0 wx => ∃ (V : World), V = wx ∧ s0 = .bool false ∧ Below w7.heap.size w7 V)
  case first =>
    have hq0 : w.heap.size ≤ w7.heap.size := hB7.size
    have hW0 : Below w7.heap.size w7 w7 := Below.refl _ _
    have ee0 : Below w7.heap.size w7 w7 := Below.refl _ _
    have ed0 : Below w7.heap.size w7 w7.drew := (Below.refl _ _).drew
    have s3 : w7.drew.cell? ⟨w.heap.size + 1, 0, none⟩ = some (.int .i64 PB.f0) ∧ w7.drew.cell? ⟨w.heap.size + 1, 1, none⟩ = some (.slice aB1 PB.f1.length cB1) ∧ w7.drew.cell? ⟨w.heap.size + 1, 2, none⟩ = some (.slice aB2 PB.f2.length cB2) ∧ w7.drew.cell? ⟨w.heap.size + 1, 3, none⟩ = some (.slice aB3 PB.f3.length cB3) ∧ w7.drew.cell? ⟨bxB, 0, none⟩ = some (.int .i64 PB.f0) ∧ w7.drew.cell? ⟨bxB, 1, none⟩ = some (.slice xxB1 PB.f1.length yxB1) ∧ w7.drew.cell? ⟨bxB, 2, none⟩ = some (.slice xxB2 PB.f2.length yxB2) ∧ w7.drew.cell? ⟨bxB, 3, none⟩ = some (.slice xxB3 PB.f3.length yxB3) := ⟨(Blk.drew kB).at rfl, (Blk.drew kB).at rfl, (Blk.drew kB).at rfl, (Blk.drew kB).at rfl, (Blk.drew BxB).at rfl, (Blk.drew BxB).at rfl, (Blk.drew BxB).at rfl, (Blk.drew BxB).at rfl⟩
    go_wp2_with fail
    go_region_held3 (fun w' => w'.cell? ⟨w.heap.size + 1, 0, none⟩ = some (.int .i64 PB.f0) ∧ w'.cell? ⟨w.heap.size + 1, 1, none⟩ = some (.slice aB1 PB.f1.length cB1) ∧ w'.cell? ⟨w.heap.size + 1, 2, none⟩ = some (.slice aB2 PB.f2.length cB2) ∧ w'.cell? ⟨w.heap.size + 1, 3, none⟩ = some (.slice aB3 PB.f3.length cB3) ∧ w'.cell? ⟨bxB, 0, none⟩ = some (.int .i64 PB.f0) ∧ w'.cell? ⟨bxB, 1, none⟩ = some (.slice xxB1 PB.f1.length yxB1) ∧ w'.cell? ⟨bxB, 2, none⟩ = some (.slice xxB2 PB.f2.length yxB2) ∧ w'.cell? ⟨bxB, 3, none⟩ = some (.slice xxB3 PB.f3.length yxB3))
      (first | (with_reducible exact s3) | go_keep)
      (first
      | (go_at_call 27; refine Calls.mono (gto_State (lo := 0) (hi := w.heap.size) PB (fB1.below (w := w7) (by first | (with_reducible exact ee0) | (with_reducible exact ed0))) (fB2.below (w := w7) (by first | (with_reducible exact ee0) | (with_reducible exact ed0))) (fB3.below (w := w7) (by first | (with_reducible exact ee0) | (with_reducible exact ed0))) (Nat.le_trans hq0 (Below.size (B := w7.heap.size) (w := w7) (by first | (with_reducible exact ee0) | (with_reducible exact ed0)))) (by omega) (by omega) (by omega)) ?_; rintro e u1 ⟨XB1, YB1, XB2, YB2, XB3, YB3, mB1, mB2, rfl, ho1, ho2, ho3, onB0, onB1, onB2, hb⟩; have hv1 : Below w7.heap.size w7 u1 := Below.trans (show Below w7.heap.size w7 _ from (by first | (with_reducible exact ee0) | (with_reducible exact ed0))) (hb.mono (Below.size (B := w7.heap.size) (w := w7) (by first | (with_reducible exact ee0) | (with_reducible exact ed0)))); have fA1 := fA1.below hv1; have fA2 := fA2.below hv1; have fA3 := fA3.below hv1; have fB1 := fB1.below hv1; have fB2 := fB2.below hv1; have fB3 := fB3.below hv1; have kB := kB.below hv1; have BxB := BxB.below hv1; have rxB1 := Owns.below rxB1 hv1; have rxB2 := Owns.below rxB2 hv1; have rxB3 := Owns.below rxB3 hv1; have qB1 := Owns.lies (lo := 0) (hi := u1.heap.size) ho1 (fun t h => ⟨Nat.zero_le _, by have := h.2; omega⟩); have qB2 := Owns.lies (lo := 0) (hi := u1.heap.size) ho2 (fun t h => ⟨Nat.zero_le _, by have := h.2; omega⟩); have qB3 := Owns.lies (lo := 0) (hi := u1.heap.size) ho3 (fun t h => ⟨Nat.zero_le _, by have := h.2; omega⟩); clear ho1 ho2 ho3 onB0 onB1 onB2; have hq1 := Nat.le_trans hq0 hv1.size; have hz1 := hv1.size; have ee1 : Below u1.heap.size u1 u1 := Below.refl _ _; have ed1 := ee1; have hW1 := hW0.trans (hv1.mono hW0.size); have s3 : u1.cell? ⟨w.heap.size + 1, 0, none⟩ = some (.int .i64 PB.f0) ∧ u1.cell? ⟨w.heap.size + 1, 1, none⟩ = some (.slice aB1 PB.f1.length cB1) ∧ u1.cell? ⟨w.heap.size + 1, 2, none⟩ = some (.slice aB2 PB.f2.length cB2) ∧ u1.cell? ⟨w.heap.size + 1, 3, none⟩ = some (.slice aB3 PB.f3.length cB3) ∧ u1.cell? ⟨bxB, 0, none⟩ = some (.int .i64 PB.f0) ∧ u1.cell? ⟨bxB, 1, none⟩ = some (.slice xxB1 PB.f1.length yxB1) ∧ u1.cell? ⟨bxB, 2, none⟩ = some (.slice xxB2 PB.f2.length yxB2) ∧ u1.cell? ⟨bxB, 3, none⟩ = some (.slice xxB3 PB.f3.length yxB3) := ⟨(kB).at rfl, (kB).at rfl, (kB).at rfl, (kB).at rfl, (BxB).at rfl, (BxB).at rfl, (BxB).at rfl, (BxB).at rfl⟩; clear hb)
      | (go_at_call 22; refine Calls.mono (geq_State PB (Lies.below (w := u1) (Owns.lies rxB1 (lo := 0) (hi := u1.heap.size) (fun t h => ⟨Nat.zero_le _, by have := urxB1 t h; omega⟩)) (by first | (with_reducible exact ee1) | (with_reducible exact ed1))) (Lies.below (w := u1) (Owns.lies rxB2 (lo := 0) (hi := u1.heap.size) (fun t h => ⟨Nat.zero_le _, by have := urxB2 t h; omega⟩)) (by first | (with_reducible exact ee1) | (with_reducible exact ed1))) (Lies.below (w := u1) (Owns.lies rxB3 (lo := 0) (hi := u1.heap.size) (fun t h => ⟨Nat.zero_le _, by have := urxB3 t h; omega⟩)) (by first | (with_reducible exact ee1) | (with_reducible exact ed1))) (Lies.below (w := u1) qB1 (by first | (with_reducible exact ee1) | (with_reducible exact ed1))) (Lies.below (w := u1) qB2 (by first | (with_reducible exact ee1) | (with_reducible exact ed1))) (Lies.below (w := u1) qB3 (by first | (with_reducible exact ee1) | (with_reducible exact ed1))) (Below.size (B := u1.heap.size) (w := u1) (by first | (with_reducible exact ee1) | (with_reducible exact ed1))) (Below.size (B := u1.heap.size) (w := u1) (by first | (with_reducible exact ee1) | (with_reducible exact ed1)))) ?_; rintro e u2 ⟨rfl, hb⟩; have hv2 : Below u1.heap.size u1 u2 := Below.trans (show Below u1.heap.size u1 _ from (by first | (with_reducible exact ee1) | (with_reducible exact ed1))) (hb.mono (Below.size (B := u1.heap.size) (w := u1) (by first | (with_reducible exact ee1) | (with_reducible exact ed1)))); have fA1 := fA1.below hv2; have fA2 := fA2.below hv2; have fA3 := fA3.below hv2; have fB1 := fB1.below hv2; have fB2 := fB2.below hv2; have fB3 := fB3.below hv2; have kB := kB.below hv2; have BxB := BxB.below hv2; have rxB1 := Owns.below rxB1 hv2; have rxB2 := Owns.below rxB2 hv2; have rxB3 := Owns.below rxB3 hv2; have hq2 := Nat.le_trans hq1 hv2.size; have hz2 := hv2.size; have ee2 : Below u2.heap.size u2 u2 := Below.refl _ _; have ed2 := ee2; have hW2 := hW1.trans (hv2.mono hW1.size); have s3 : u2.cell? ⟨w.heap.size + 1, 0, none⟩ = some (.int .i64 PB.f0) ∧ u2.cell? ⟨w.heap.size + 1, 1, none⟩ = some (.slice aB1 PB.f1.length cB1) ∧ u2.cell? ⟨w.heap.size + 1, 2, none⟩ = some (.slice aB2 PB.f2.length cB2) ∧ u2.cell? ⟨w.heap.size + 1, 3, none⟩ = some (.slice aB3 PB.f3.length cB3) ∧ u2.cell? ⟨bxB, 0, none⟩ = some (.int .i64 PB.f0) ∧ u2.cell? ⟨bxB, 1, none⟩ = some (.slice xxB1 PB.f1.length yxB1) ∧ u2.cell? ⟨bxB, 2, none⟩ = some (.slice xxB2 PB.f2.length yxB2) ∧ u2.cell? ⟨bxB, 3, none⟩ = some (.slice xxB3 PB.f3.length yxB3) := ⟨(kB).at rfl, (kB).at rfl, (kB).at rfl, (kB).at rfl, (BxB).at rfl, (BxB).at rfl, (BxB).at rfl, (BxB).at rfl⟩; clear hb)
      )
    all_goals
      go_wp2_with fail
      go_meet
      case rel => exact ⟨_, rfl, rfl, hW2⟩
  case rest =>
  obtain ⟨w8, rfl, rfl, hb8⟩ := hcut
  have hs8 : w7.heap.size ≤ w8.heap.size := hb8.size
  have fA1 := fA1.below hb8
  have fA2 := fA2.below hb8
  have fA3 := fA3.below hb8
  have fB1 := fB1.below hb8
  have fB2 := fB2.below hb8
  have fB3 := fB3.below hb8
  have kA := kA.below hb8
  have kB := kB.below hb8
  have rxA1 := Owns.below rxA1 hb8
  have rxA2 := Owns.below rxA2 hb8
  have rxA3 := Owns.below rxA3 hb8
  have rxB1 := Owns.below rxB1 hb8
  have rxB2 := Owns.below rxB2 hb8
  have rxB3 := Owns.below rxB3 hb8
  have BxA := BxA.below hb8
  have BxB := BxB.below hb8
  have hB8 := hB7.trans (hb8.mono hB7.size)
  clear hb8
  go_wp2
  go_ret
  exact ⟨rfl, hB8⟩
end Go.Proofs.Ytbohkohccnieiaa.FnExactEqualStatesW
