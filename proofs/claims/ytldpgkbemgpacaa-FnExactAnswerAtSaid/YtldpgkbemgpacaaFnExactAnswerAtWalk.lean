/-
  The law FnExactAnswerAt returns true, and leaves what was there as it was.
  Conditions: the arguments can be read.
-/
import Derived.Test.YtldpgkbemgpacaaSiteI
import Derived.Test.YtldpgkbemgpacaaSiteS
import Derived.Deep.CutBlock
import Derived.Deep.DeepCutAuto
import Derived.Deep.RegionHeld3
namespace Go.Proofs.Ytldpgkbemgpacaa.FnExactAnswerAtW
open Go Go.RowKit Go.Proofs.Ytldpgkbemgpacaa.Mem Go.Proofs.Ytldpgkbemgpacaa.Gen Go.Proofs.Ytldpgkbemgpacaa.Sites
set_option linter.unusedVariables false

set_option maxHeartbeats 4000000 in
set_option maxRecDepth 100000 in
theorem law_walk (lL : List TVersion) (aL : Option Addr) (cL : Nat) (PA : TAddress) (zT : Int) (w : World) (fL : Lies 0 w.heap.size w (dVersion lL) (.slice aL lL.length cL)) (bA0 : (Lit.int .i64 PA.f0).wf = true) (bA1 : (Lit.int .i64 PA.f1).wf = true) (bA2 : (Lit.int .i64 PA.f2).wf = true) (bT : (Lit.int .i64 zT).wf = true) :
    Calls Try.prog 5 #[.slice aL lL.length cL, (Value.agg #[.int .i64 PA.f0, .int .i64 PA.f1, .int .i64 PA.f2]), .int .i64 zT] w fun e w' => e = .returned (.bool true) ∧ Below w.heap.size w w' := by
  have hB0 : Below w.heap.size w (w.alloc (.cells #[Value.int .i64 PA.f0, .int .i64 PA.f1, .int .i64 PA.f2] 45)) := by repeat' (first | exact Below.refl _ _ | assumption | refine Below.setCell ?_ ?_ _ | refine Below.alloc ?_ ?_ _ | refine Gen.gbelow_drewN ?_ _ | refine Below.drew ?_ | exact Nat.le_refl _ | omega | (dsimp only; omega) | refine Gen.gle_alloc ?_ | refine Gen.gle_set ?_ | refine Gen.gle_drewN ?_ | refine Gen.gle_drew ?_)
  have hs0 : (w.alloc (.cells #[Value.int .i64 PA.f0, .int .i64 PA.f1, .int .i64 PA.f2] 45)).heap.size = w.heap.size + 1 := by simp only [gsize_alloc]
  have kA : Blk 45 (w.heap.size) [Value.int .i64 PA.f0, .int .i64 PA.f1, .int .i64 PA.f2] (w.alloc (.cells #[Value.int .i64 PA.f0, .int .i64 PA.f1, .int .i64 PA.f2] 45)) := by
    have q := Blk.new 45 [Value.int .i64 PA.f0, .int .i64 PA.f1, .int .i64 PA.f2] w
    exact q
  have fL := fL.below hB0
  go_enter Try.func5, Try.ntmps5
  go_wp2_with fail
  go_at_call 17
  refine Calls.mono (gsz_VersionS (lo := 0) (hi := w.heap.size) fL hB0.size 1048576 (by omega) (by omega)) ?_
  rintro e w1 ⟨rfl, hb1⟩
  have hs1 : (w.alloc (.cells #[Value.int .i64 PA.f0, .int .i64 PA.f1, .int .i64 PA.f2] 45)).heap.size ≤ w1.heap.size := hb1.size
  have fL := fL.below hb1
  have kA := kA.below hb1
  have hB1 := hB0.trans (hb1.mono hB0.size)
  clear hb1
  have hl1 := left_cases 1048576 (room (dVersion lL)) (by omega)
  obtain ⟨L1, hL1⟩ : ∃ L, left 1048576 (room (dVersion lL)) = L := ⟨_, rfl⟩
  rw [hL1] at hl1 ⊢
  rcases hl1 with ⟨rfl, hl1⟩ | ⟨hl1, gl1⟩
  · go_wp2
    go_ret
    exact ⟨rfl, hB1⟩
  have dl1 : decide (L1 < 0) = false := by simp; omega
  have ml1 : L1 ≤ 1048576 := by omega
  have rmL : room (dVersion lL) ≤ 1048576 := by omega
  clear hl1 hL1
  obtain ⟨R, hR⟩ : ∃ R, answer lL PA zT = R := ⟨_, rfl⟩
  have zR : room (ints R.f1) ≤ 1048576 := by rw [← hR, room_ints]; exact Nat.le_trans (room_answer lL PA zT _ (Nat.le_refl _)) rmL
  have hS : ∀ (W : World) (loL hiL : Nat) (aL : Option Addr) (cL : Nat), Lies loL hiL W (dVersion lL) (.slice aL lL.length cL) → hiL ≤ W.heap.size → Calls Try.prog 22 #[.slice aL lL.length cL, (Value.agg #[.int .i64 PA.f0, .int .i64 PA.f1, .int .i64 PA.f2]), .int .i64 zT] W (fun e w' => ∃ (xR1 : Option Addr) (yR1 : Nat) (SR1 : Nat → Prop), e = .returned (Value.agg #[.int .i64 R.f0, .slice xR1 R.f1.length yR1, .int .i64 R.f2.f0, .int .i64 R.f2.f1, .int .i64 R.f2.f2]) ∧ Owns w' (ints R.f1) (.slice xR1 R.f1.length yR1) SR1 ∧ (∀ t, SR1 t → W.heap.size ≤ t ∧ t < w'.heap.size) ∧ Below W.heap.size W w') := by
    intro W loL hiL aL cL hL sL
    refine Calls.mono (answer_spec loL hiL W aL cL lL hL sL rmL PA zT) ?_
    rw [hR]
    rintro e w' ⟨a, d, rfl, ho, hb⟩
    exact ⟨a, d, Span W.heap.size w'.heap.size, rfl, ho, fun t h => h, hb⟩
  have hI : ∀ (W : World) (loL hiL : Nat) (aL : Option Addr) (cL : Nat), Lies loL hiL W (dVersion lL) (.slice aL lL.length cL) → hiL ≤ W.heap.size → Calls Try.prog 11 #[.slice aL lL.length cL, (Value.agg #[.int .i64 PA.f0, .int .i64 PA.f1, .int .i64 PA.f2]), .int .i64 zT] W (fun e w' => ∃ (xR1 : Option Addr) (yR1 : Nat) (SR1 : Nat → Prop), e = .returned (Value.agg #[.int .i64 R.f0, .slice xR1 R.f1.length yR1, .int .i64 R.f2.f0, .int .i64 R.f2.f1, .int .i64 R.f2.f2]) ∧ Owns w' (ints R.f1) (.slice xR1 R.f1.length yR1) SR1 ∧ (∀ t, SR1 t → W.heap.size ≤ t ∧ t < w'.heap.size) ∧ Below W.heap.size W w') := by
    intro W loL hiL aL cL hL sL
    refine Calls.mono (answer_impl loL hiL W aL cL lL hL sL rmL PA ⟨bA0, bA1, bA2⟩ zT) ?_
    rw [hR]
    rintro e w' ⟨a, d, rfl, ho, hb⟩
    exact ⟨a, d, Span W.heap.size w'.heap.size, rfl, ho, fun t h => h, hb⟩
  clear hR
  go_upto_region 5 with fail
  go_cut [8] (fun s0 wx => ∃ (V : World) (bR : Nat) (xR1 : Option Addr) (yR1 : Nat) (SR1 : Nat → Prop), V = wx ∧ s0 = .pointer (some ⟨bR, 0, none⟩) ∧ Blk 31 bR [Value.int .i64 R.f0, .slice xR1 R.f1.length yR1, .int .i64 R.f2.f0, .int .i64 R.f2.f1, .int .i64 R.f2.f2] V ∧ (w.heap.size + 1 ≤ bR) ∧ bR < V.heap.size ∧ (w1.heap.size ≤ bR) ∧ Owns V (ints R.f1) (.slice xR1 R.f1.length yR1) SR1 ∧ (∀ t, SR1 t → w1.heap.size ≤ t ∧ t < V.heap.size) ∧ ¬ SR1 bR ∧ Below w1.heap.size w1 V)
  case first =>
    have hq0 : w.heap.size ≤ w1.heap.size := hB1.size
    have hW0 : Below w1.heap.size w1 w1 := Below.refl _ _
    have ee0 : Below w1.heap.size w1 w1 := Below.refl _ _
    have ed0 : Below w1.heap.size w1 w1.drew := (Below.refl _ _).drew
    have ea0 : Below w1.heap.size w1 (w1.alloc (.cells #[Value.int .i64 0, .slice none 0 0, .int .i64 0, .int .i64 0, .int .i64 0] 31)).drew := ((Below.refl _ _).alloc (Nat.le_refl _) _).drew
    have s3 : w1.drew.cell? ⟨w.heap.size, 0, none⟩ = some (.int .i64 PA.f0) ∧ w1.drew.cell? ⟨w.heap.size, 1, none⟩ = some (.int .i64 PA.f1) ∧ w1.drew.cell? ⟨w.heap.size, 2, none⟩ = some (.int .i64 PA.f2) := ⟨(Blk.drew kA).at rfl, (Blk.drew kA).at rfl, (Blk.drew kA).at rfl⟩
    have t3 : (w1.alloc (.cells #[Value.int .i64 0, .slice none 0 0, .int .i64 0, .int .i64 0, .int .i64 0] 31)).drew.cell? ⟨w.heap.size, 0, none⟩ = some (.int .i64 PA.f0) ∧ (w1.alloc (.cells #[Value.int .i64 0, .slice none 0 0, .int .i64 0, .int .i64 0, .int .i64 0] 31)).drew.cell? ⟨w.heap.size, 1, none⟩ = some (.int .i64 PA.f1) ∧ (w1.alloc (.cells #[Value.int .i64 0, .slice none 0 0, .int .i64 0, .int .i64 0, .int .i64 0] 31)).drew.cell? ⟨w.heap.size, 2, none⟩ = some (.int .i64 PA.f2) := ⟨(Blk.drew (Blk.alloc kA _)).at rfl, (Blk.drew (Blk.alloc kA _)).at rfl, (Blk.drew (Blk.alloc kA _)).at rfl⟩
    go_wp2_with fail
    go_region_held3 (fun w' => w'.cell? ⟨w.heap.size, 0, none⟩ = some (.int .i64 PA.f0) ∧ w'.cell? ⟨w.heap.size, 1, none⟩ = some (.int .i64 PA.f1) ∧ w'.cell? ⟨w.heap.size, 2, none⟩ = some (.int .i64 PA.f2))
      (first | (with_reducible exact s3) | (with_reducible exact t3) | (with_reducible exact t4) | (with_reducible exact v3) | go_keep)
      (first
      | (go_at_call 19; refine Calls.mono (gto_VersionS (lo := 0) (hi := w.heap.size) (fL.below (w := w1) (by first | (with_reducible exact ee0) | (with_reducible exact ed0) | (with_reducible exact ea0))) (Nat.le_trans hq0 (Below.size (B := w1.heap.size) (w := w1) (by first | (with_reducible exact ee0) | (with_reducible exact ed0) | (with_reducible exact ea0)))) (by omega)) ?_; rintro e u1 ⟨v1, rfl, ho, hb⟩; have hx1 := hb; have hv1 : Below w1.heap.size w1 u1 := Below.trans (show Below w1.heap.size w1 _ from (by first | (with_reducible exact ee0) | (with_reducible exact ed0) | (with_reducible exact ea0))) (hb.mono (Below.size (B := w1.heap.size) (w := w1) (by first | (with_reducible exact ee0) | (with_reducible exact ed0) | (with_reducible exact ea0)))); have fL := fL.below hv1; have kA := kA.below hv1; obtain ⟨XL, YL, rfl, _⟩ : ∃ a c, v1 = .slice a lL.length c ∧ True := (by obtain ⟨a, c, q, _⟩ := ho; exact ⟨a, c, q, trivial⟩); have qL := Owns.lies (lo := 0) (hi := u1.heap.size) ho (fun t h => ⟨Nat.zero_le _, h.2⟩); clear ho; have hq1 := Nat.le_trans hq0 hv1.size; have hz1 := hv1.size; have ee1 : Below u1.heap.size u1 u1 := Below.refl _ _; have ed1 := ee1; have ea1 : Below u1.heap.size u1 (u1.alloc (.cells #[Value.int .i64 0, .slice none 0 0, .int .i64 0, .int .i64 0, .int .i64 0] 31)) := (Below.refl _ _).alloc (Nat.le_refl _) _; have hW1 := hW0.trans (hv1.mono hW0.size); have s3 : u1.cell? ⟨w.heap.size, 0, none⟩ = some (.int .i64 PA.f0) ∧ u1.cell? ⟨w.heap.size, 1, none⟩ = some (.int .i64 PA.f1) ∧ u1.cell? ⟨w.heap.size, 2, none⟩ = some (.int .i64 PA.f2) := ⟨(kA).at rfl, (kA).at rfl, (kA).at rfl⟩; clear hb; have t3 : (u1.alloc (.cells #[Value.int .i64 0, .slice none 0 0, .int .i64 0, .int .i64 0, .int .i64 0] 31)).cell? ⟨w.heap.size, 0, none⟩ = some (.int .i64 PA.f0) ∧ (u1.alloc (.cells #[Value.int .i64 0, .slice none 0 0, .int .i64 0, .int .i64 0, .int .i64 0] 31)).cell? ⟨w.heap.size, 1, none⟩ = some (.int .i64 PA.f1) ∧ (u1.alloc (.cells #[Value.int .i64 0, .slice none 0 0, .int .i64 0, .int .i64 0, .int .i64 0] 31)).cell? ⟨w.heap.size, 2, none⟩ = some (.int .i64 PA.f2) := ⟨(Blk.alloc kA _).at rfl, (Blk.alloc kA _).at rfl, (Blk.alloc kA _).at rfl⟩)
      | (go_at_call 23; refine Calls.mono (gto_Address PA) ?_; rintro e u2 ⟨rfl, hb⟩; have hx2 := hb; have hv2 : Below u1.heap.size u1 u2 := Below.trans (show Below u1.heap.size u1 _ from (by first | (with_reducible exact ee1) | (with_reducible exact ed1) | (with_reducible exact ea1))) (hb.mono (Below.size (B := u1.heap.size) (w := u1) (by first | (with_reducible exact ee1) | (with_reducible exact ed1) | (with_reducible exact ea1)))); have qL := Lies.below qL hv2; have fL := fL.below hv2; have kA := kA.below hv2; have hq2 := Nat.le_trans hq1 hv2.size; have hz2 := hv2.size; have ee2 : Below u2.heap.size u2 u2 := Below.refl _ _; have ed2 := ee2; have ea2 : Below u2.heap.size u2 (u2.alloc (.cells #[Value.int .i64 0, .slice none 0 0, .int .i64 0, .int .i64 0, .int .i64 0] 31)) := (Below.refl _ _).alloc (Nat.le_refl _) _; have hW2 := hW1.trans (hv2.mono hW1.size); have s3 : u2.cell? ⟨w.heap.size, 0, none⟩ = some (.int .i64 PA.f0) ∧ u2.cell? ⟨w.heap.size, 1, none⟩ = some (.int .i64 PA.f1) ∧ u2.cell? ⟨w.heap.size, 2, none⟩ = some (.int .i64 PA.f2) := ⟨(kA).at rfl, (kA).at rfl, (kA).at rfl⟩; clear hb; have t3 : (u2.alloc (.cells #[Value.int .i64 0, .slice none 0 0, .int .i64 0, .int .i64 0, .int .i64 0] 31)).cell? ⟨w.heap.size, 0, none⟩ = some (.int .i64 PA.f0) ∧ (u2.alloc (.cells #[Value.int .i64 0, .slice none 0 0, .int .i64 0, .int .i64 0, .int .i64 0] 31)).cell? ⟨w.heap.size, 1, none⟩ = some (.int .i64 PA.f1) ∧ (u2.alloc (.cells #[Value.int .i64 0, .slice none 0 0, .int .i64 0, .int .i64 0, .int .i64 0] 31)).cell? ⟨w.heap.size, 2, none⟩ = some (.int .i64 PA.f2) := ⟨(Blk.alloc kA _).at rfl, (Blk.alloc kA _).at rfl, (Blk.alloc kA _).at rfl⟩)
      | (go_at_call 22; refine Calls.mono (hS _ _ _ _ _ (Lies.below (w := u2) qL (by first | (with_reducible exact ee2) | (with_reducible exact ed2) | (with_reducible exact ea2))) (Nat.le_trans (by omega) (Below.size (B := u2.heap.size) (w := u2) (by first | (with_reducible exact ee2) | (with_reducible exact ed2) | (with_reducible exact ea2))))) ?_; rintro e u3 ⟨xR1, yR1, SR1, rfl, roR1, suR1, hb⟩; have hx3 := hb; have hv3 : Below u2.heap.size u2 u3 := Below.trans (show Below u2.heap.size u2 _ from (by first | (with_reducible exact ee2) | (with_reducible exact ed2) | (with_reducible exact ea2))) (hb.mono (Below.size (B := u2.heap.size) (w := u2) (by first | (with_reducible exact ee2) | (with_reducible exact ed2) | (with_reducible exact ea2)))); have qL := Lies.below qL hv3; have fL := fL.below hv3; have kA := kA.below hv3; have szR1 := hb.size; have hq3 := Nat.le_trans hq2 hv3.size; have hz3 := hv3.size; have ee3 : Below u3.heap.size u3 u3 := Below.refl _ _; have ed3 := ee3; have ea3 : Below u3.heap.size u3 (u3.alloc (.cells #[Value.int .i64 0, .slice none 0 0, .int .i64 0, .int .i64 0, .int .i64 0] 31)) := (Below.refl _ _).alloc (Nat.le_refl _) _; have hW3 := hW2.trans (hv3.mono hW2.size); have s3 : u3.cell? ⟨w.heap.size, 0, none⟩ = some (.int .i64 PA.f0) ∧ u3.cell? ⟨w.heap.size, 1, none⟩ = some (.int .i64 PA.f1) ∧ u3.cell? ⟨w.heap.size, 2, none⟩ = some (.int .i64 PA.f2) := ⟨(kA).at rfl, (kA).at rfl, (kA).at rfl⟩; clear hb; have t4 : (u3.alloc (.cells #[Value.int .i64 R.f0, .slice xR1 R.f1.length yR1, .int .i64 R.f2.f0, .int .i64 R.f2.f1, .int .i64 R.f2.f2] 31)).cell? ⟨w.heap.size, 0, none⟩ = some (.int .i64 PA.f0) ∧ (u3.alloc (.cells #[Value.int .i64 R.f0, .slice xR1 R.f1.length yR1, .int .i64 R.f2.f0, .int .i64 R.f2.f1, .int .i64 R.f2.f2] 31)).cell? ⟨w.heap.size, 1, none⟩ = some (.int .i64 PA.f1) ∧ (u3.alloc (.cells #[Value.int .i64 R.f0, .slice xR1 R.f1.length yR1, .int .i64 R.f2.f0, .int .i64 R.f2.f1, .int .i64 R.f2.f2] 31)).cell? ⟨w.heap.size, 2, none⟩ = some (.int .i64 PA.f2) := ⟨(Blk.alloc kA _).at rfl, (Blk.alloc kA _).at rfl, (Blk.alloc kA _).at rfl⟩; (first | ((with_reducible have qb := ((((Blk.drew (Blk.new 31 [Value.int .i64 0, .slice none 0 0, .int .i64 0, .int .i64 0, .int .i64 0] w1)).below hx1).below hx2).below hx3)); (with_reducible have lb := Blk.lt (((Blk.drew (Blk.new 31 [Value.int .i64 0, .slice none 0 0, .int .i64 0, .int .i64 0, .int .i64 0] w1)).below hx1).below hx2)); (try simp only [gsize_alloc] at lb); (try simp only [gsize_drew] at lb); have o0 := qb.at (x := 0) rfl; have o'0 := qb.free 0; have o1 := qb.at (x := 1) rfl; have o'1 := qb.free 1; have o2 := qb.at (x := 2) rfl; have o'2 := qb.free 2; have o3 := qb.at (x := 3) rfl; have o'3 := qb.free 3; have o4 := qb.at (x := 4) rfl; have o'4 := qb.free 4; have KA := (((((kA.other (a := ⟨w1.heap.size, 0, none⟩) (.int .i64 R.f0) (by dsimp only; omega)).other (a := ⟨w1.heap.size, 1, none⟩) (.slice xR1 R.f1.length yR1) (by dsimp only; omega)).other (a := ⟨w1.heap.size, 2, none⟩) (.int .i64 R.f2.f0) (by dsimp only; omega)).other (a := ⟨w1.heap.size, 3, none⟩) (.int .i64 R.f2.f1) (by dsimp only; omega)).other (a := ⟨w1.heap.size, 4, none⟩) (.int .i64 R.f2.f2) (by dsimp only; omega)); have v3 : (((((u3.setCell ⟨w1.heap.size, 0, none⟩ (.int .i64 R.f0)).setCell ⟨w1.heap.size, 1, none⟩ (.slice xR1 R.f1.length yR1)).setCell ⟨w1.heap.size, 2, none⟩ (.int .i64 R.f2.f0)).setCell ⟨w1.heap.size, 3, none⟩ (.int .i64 R.f2.f1)).setCell ⟨w1.heap.size, 4, none⟩ (.int .i64 R.f2.f2)).cell? ⟨w.heap.size, 0, none⟩ = some (.int .i64 PA.f0) ∧ (((((u3.setCell ⟨w1.heap.size, 0, none⟩ (.int .i64 R.f0)).setCell ⟨w1.heap.size, 1, none⟩ (.slice xR1 R.f1.length yR1)).setCell ⟨w1.heap.size, 2, none⟩ (.int .i64 R.f2.f0)).setCell ⟨w1.heap.size, 3, none⟩ (.int .i64 R.f2.f1)).setCell ⟨w1.heap.size, 4, none⟩ (.int .i64 R.f2.f2)).cell? ⟨w.heap.size, 1, none⟩ = some (.int .i64 PA.f1) ∧ (((((u3.setCell ⟨w1.heap.size, 0, none⟩ (.int .i64 R.f0)).setCell ⟨w1.heap.size, 1, none⟩ (.slice xR1 R.f1.length yR1)).setCell ⟨w1.heap.size, 2, none⟩ (.int .i64 R.f2.f0)).setCell ⟨w1.heap.size, 3, none⟩ (.int .i64 R.f2.f1)).setCell ⟨w1.heap.size, 4, none⟩ (.int .i64 R.f2.f2)).cell? ⟨w.heap.size, 2, none⟩ = some (.int .i64 PA.f2) := ⟨KA.at rfl, KA.at rfl, KA.at rfl⟩) | ((with_reducible have qb := (((Blk.new 31 [Value.int .i64 0, .slice none 0 0, .int .i64 0, .int .i64 0, .int .i64 0] u1).below hx2).below hx3)); (with_reducible have lb := Blk.lt ((Blk.new 31 [Value.int .i64 0, .slice none 0 0, .int .i64 0, .int .i64 0, .int .i64 0] u1).below hx2)); (try simp only [gsize_alloc] at lb); (try simp only [gsize_drew] at lb); have o0 := qb.at (x := 0) rfl; have o'0 := qb.free 0; have o1 := qb.at (x := 1) rfl; have o'1 := qb.free 1; have o2 := qb.at (x := 2) rfl; have o'2 := qb.free 2; have o3 := qb.at (x := 3) rfl; have o'3 := qb.free 3; have o4 := qb.at (x := 4) rfl; have o'4 := qb.free 4; have KA := (((((kA.other (a := ⟨u1.heap.size, 0, none⟩) (.int .i64 R.f0) (by dsimp only; omega)).other (a := ⟨u1.heap.size, 1, none⟩) (.slice xR1 R.f1.length yR1) (by dsimp only; omega)).other (a := ⟨u1.heap.size, 2, none⟩) (.int .i64 R.f2.f0) (by dsimp only; omega)).other (a := ⟨u1.heap.size, 3, none⟩) (.int .i64 R.f2.f1) (by dsimp only; omega)).other (a := ⟨u1.heap.size, 4, none⟩) (.int .i64 R.f2.f2) (by dsimp only; omega)); have v3 : (((((u3.setCell ⟨u1.heap.size, 0, none⟩ (.int .i64 R.f0)).setCell ⟨u1.heap.size, 1, none⟩ (.slice xR1 R.f1.length yR1)).setCell ⟨u1.heap.size, 2, none⟩ (.int .i64 R.f2.f0)).setCell ⟨u1.heap.size, 3, none⟩ (.int .i64 R.f2.f1)).setCell ⟨u1.heap.size, 4, none⟩ (.int .i64 R.f2.f2)).cell? ⟨w.heap.size, 0, none⟩ = some (.int .i64 PA.f0) ∧ (((((u3.setCell ⟨u1.heap.size, 0, none⟩ (.int .i64 R.f0)).setCell ⟨u1.heap.size, 1, none⟩ (.slice xR1 R.f1.length yR1)).setCell ⟨u1.heap.size, 2, none⟩ (.int .i64 R.f2.f0)).setCell ⟨u1.heap.size, 3, none⟩ (.int .i64 R.f2.f1)).setCell ⟨u1.heap.size, 4, none⟩ (.int .i64 R.f2.f2)).cell? ⟨w.heap.size, 1, none⟩ = some (.int .i64 PA.f1) ∧ (((((u3.setCell ⟨u1.heap.size, 0, none⟩ (.int .i64 R.f0)).setCell ⟨u1.heap.size, 1, none⟩ (.slice xR1 R.f1.length yR1)).setCell ⟨u1.heap.size, 2, none⟩ (.int .i64 R.f2.f0)).setCell ⟨u1.heap.size, 3, none⟩ (.int .i64 R.f2.f1)).setCell ⟨u1.heap.size, 4, none⟩ (.int .i64 R.f2.f2)).cell? ⟨w.heap.size, 2, none⟩ = some (.int .i64 PA.f2) := ⟨KA.at rfl, KA.at rfl, KA.at rfl⟩) | ((with_reducible have qb := ((Blk.new 31 [Value.int .i64 0, .slice none 0 0, .int .i64 0, .int .i64 0, .int .i64 0] u2).below hx3)); (with_reducible have lb := Blk.lt (Blk.new 31 [Value.int .i64 0, .slice none 0 0, .int .i64 0, .int .i64 0, .int .i64 0] u2)); (try simp only [gsize_alloc] at lb); (try simp only [gsize_drew] at lb); have o0 := qb.at (x := 0) rfl; have o'0 := qb.free 0; have o1 := qb.at (x := 1) rfl; have o'1 := qb.free 1; have o2 := qb.at (x := 2) rfl; have o'2 := qb.free 2; have o3 := qb.at (x := 3) rfl; have o'3 := qb.free 3; have o4 := qb.at (x := 4) rfl; have o'4 := qb.free 4; have KA := (((((kA.other (a := ⟨u2.heap.size, 0, none⟩) (.int .i64 R.f0) (by dsimp only; omega)).other (a := ⟨u2.heap.size, 1, none⟩) (.slice xR1 R.f1.length yR1) (by dsimp only; omega)).other (a := ⟨u2.heap.size, 2, none⟩) (.int .i64 R.f2.f0) (by dsimp only; omega)).other (a := ⟨u2.heap.size, 3, none⟩) (.int .i64 R.f2.f1) (by dsimp only; omega)).other (a := ⟨u2.heap.size, 4, none⟩) (.int .i64 R.f2.f2) (by dsimp only; omega)); have v3 : (((((u3.setCell ⟨u2.heap.size, 0, none⟩ (.int .i64 R.f0)).setCell ⟨u2.heap.size, 1, none⟩ (.slice xR1 R.f1.length yR1)).setCell ⟨u2.heap.size, 2, none⟩ (.int .i64 R.f2.f0)).setCell ⟨u2.heap.size, 3, none⟩ (.int .i64 R.f2.f1)).setCell ⟨u2.heap.size, 4, none⟩ (.int .i64 R.f2.f2)).cell? ⟨w.heap.size, 0, none⟩ = some (.int .i64 PA.f0) ∧ (((((u3.setCell ⟨u2.heap.size, 0, none⟩ (.int .i64 R.f0)).setCell ⟨u2.heap.size, 1, none⟩ (.slice xR1 R.f1.length yR1)).setCell ⟨u2.heap.size, 2, none⟩ (.int .i64 R.f2.f0)).setCell ⟨u2.heap.size, 3, none⟩ (.int .i64 R.f2.f1)).setCell ⟨u2.heap.size, 4, none⟩ (.int .i64 R.f2.f2)).cell? ⟨w.heap.size, 1, none⟩ = some (.int .i64 PA.f1) ∧ (((((u3.setCell ⟨u2.heap.size, 0, none⟩ (.int .i64 R.f0)).setCell ⟨u2.heap.size, 1, none⟩ (.slice xR1 R.f1.length yR1)).setCell ⟨u2.heap.size, 2, none⟩ (.int .i64 R.f2.f0)).setCell ⟨u2.heap.size, 3, none⟩ (.int .i64 R.f2.f1)).setCell ⟨u2.heap.size, 4, none⟩ (.int .i64 R.f2.f2)).cell? ⟨w.heap.size, 2, none⟩ = some (.int .i64 PA.f2) := ⟨KA.at rfl, KA.at rfl, KA.at rfl⟩) | skip); have t3 : (u3.alloc (.cells #[Value.int .i64 0, .slice none 0 0, .int .i64 0, .int .i64 0, .int .i64 0] 31)).cell? ⟨w.heap.size, 0, none⟩ = some (.int .i64 PA.f0) ∧ (u3.alloc (.cells #[Value.int .i64 0, .slice none 0 0, .int .i64 0, .int .i64 0, .int .i64 0] 31)).cell? ⟨w.heap.size, 1, none⟩ = some (.int .i64 PA.f1) ∧ (u3.alloc (.cells #[Value.int .i64 0, .slice none 0 0, .int .i64 0, .int .i64 0, .int .i64 0] 31)).cell? ⟨w.heap.size, 2, none⟩ = some (.int .i64 PA.f2) := ⟨(Blk.alloc kA _).at rfl, (Blk.alloc kA _).at rfl, (Blk.alloc kA _).at rfl⟩)
      )
    all_goals
      go_wp2_with fail
      go_meet
      case rel =>
        first
        | exact ⟨_, _, _, _, SR1, rfl, rfl, (((((qb.set 0 (.int .i64 R.f0)).set 1 (.slice xR1 R.f1.length yR1)).set 2 (.int .i64 R.f2.f0)).set 3 (.int .i64 R.f2.f1)).set 4 (.int .i64 R.f2.f2)), (by (try simp only [gsize_drew]); omega), (by simp only [gsize_set]; exact qb.lt), (by (try simp only [gsize_drew]); omega), (Owns.keep roR1 fun t _ hS => by have q := suR1 t hS; (try simp only [gsize_alloc] at q); (try simp only [gsize_drew] at q); (iterate 5 (refine Eq.trans (Below.heap_setCell _ _ _ _ (by dsimp only; (try simp only [gsize_drew]); omega)) ?_)); rfl), (fun t hS => by have q := suR1 t hS; (try simp only [gsize_alloc] at q); (try simp only [gsize_drew] at q); (try simp only [gsize_alloc]); (try simp only [gsize_set]); omega), (fun hS => by have q := suR1 _ hS; (try simp only [gsize_alloc] at q); (try simp only [gsize_drew] at q); omega), (by (iterate 5 (refine Below.setCell ?_ (by (try dsimp only); (try simp only [gsize_drew]); omega) _)); exact hW3)⟩
        | exact ⟨_, _, _, _, SR1, rfl, rfl, Blk.new _ [Value.int .i64 R.f0, .slice xR1 R.f1.length yR1, .int .i64 R.f2.f0, .int .i64 R.f2.f1, .int .i64 R.f2.f2] u3, (by omega), (by rw [gsize_alloc]; omega), (by omega), (Owns.below roR1 ((Below.refl _ _).alloc (Nat.le_refl _) _)), (fun t hS => by have q := suR1 t hS; (try simp only [gsize_alloc] at q); (try simp only [gsize_drew] at q); (try simp only [gsize_alloc]); (try simp only [gsize_set]); omega), (fun hS => by have q := suR1 _ hS; (try simp only [gsize_alloc] at q); (try simp only [gsize_drew] at q); omega), (Below.alloc hW3 hW3.size _)⟩
  case rest =>
  obtain ⟨w2, bWR, xWR1, yWR1, SWR1, rfl, rfl, BWR, lbWR, ubWR, mbWR, rWR1, urWR1, nbWR1_R, hb2⟩ := hcut
  have hs2 : w1.heap.size ≤ w2.heap.size := hb2.size
  have fL := fL.below hb2
  have kA := kA.below hb2
  have hB2 := hB1.trans (hb2.mono hB1.size)
  clear hb2
  go_wp2_with fail
  go_at_call 19
  refine Calls.mono (gto_VersionS (lo := 0) (hi := w.heap.size) fL hB2.size (by omega)) ?_
  rintro e w3 ⟨v3, rfl, ho3, hb3⟩
  obtain ⟨xxL, yxL, rfl, _⟩ : ∃ a c, v3 = .slice a lL.length c ∧ True := by obtain ⟨a, c, q, _⟩ := ho3; exact ⟨a, c, q, trivial⟩
  have hs3 : w2.heap.size ≤ w3.heap.size := hb3.size
  have fL := fL.below hb3
  have kA := kA.below hb3
  have rWR1 := Owns.below rWR1 hb3
  have BWR := BWR.below hb3
  have hB3 := hB2.trans (hb3.mono hB2.size)
  clear hb3
  have gxL := ho3
  clear ho3
  have ugxL : ∀ t, Span w2.heap.size w3.heap.size t → w2.heap.size ≤ t ∧ t < w3.heap.size := fun t h => h
  go_upto_region 7 with fail
  go_cut [10] (fun s0 wx => ∃ (V : World) (bR : Nat) (xR1 : Option Addr) (yR1 : Nat) (SR1 : Nat → Prop), V = wx ∧ s0 = .pointer (some ⟨bR, 0, none⟩) ∧ Blk 31 bR [Value.int .i64 R.f0, .slice xR1 R.f1.length yR1, .int .i64 R.f2.f0, .int .i64 R.f2.f1, .int .i64 R.f2.f2] V ∧ (w.heap.size + 1 ≤ bR) ∧ bR < V.heap.size ∧ (w3.heap.size ≤ bR) ∧ Owns V (ints R.f1) (.slice xR1 R.f1.length yR1) SR1 ∧ (∀ t, SR1 t → w3.heap.size ≤ t ∧ t < V.heap.size) ∧ ¬ SR1 bR ∧ Below w3.heap.size w3 V)
  case first =>
    have hq0 : w.heap.size ≤ w3.heap.size := hB3.size
    have hW0 : Below w3.heap.size w3 w3 := Below.refl _ _
    have ee0 : Below w3.heap.size w3 w3 := Below.refl _ _
    have cbA0 : w3.cell? ⟨w.heap.size, 0, none⟩ = some (.int .i64 PA.f0) := kA.at rfl
    have cbA1 : w3.cell? ⟨w.heap.size, 1, none⟩ = some (.int .i64 PA.f1) := kA.at rfl
    have cbA2 : w3.cell? ⟨w.heap.size, 2, none⟩ = some (.int .i64 PA.f2) := kA.at rfl
    go_wp2_with fail
    go_at_call 23
    refine Calls.mono (gto_Address PA) ?_
    rintro e u1 ⟨rfl, hb⟩
    have hv1 : Below w3.heap.size w3 u1 := Below.trans (show Below w3.heap.size w3 _ from ee0) (hb.mono (Below.size (B := w3.heap.size) (w := w3) ee0))
    have fL := fL.below hv1
    have kA := kA.below hv1
    have gxL := Owns.below gxL hv1
    have hq1 := Nat.le_trans hq0 hv1.size
    have hz1 := hv1.size
    have ee1 : Below u1.heap.size u1 u1 := Below.refl _ _
    have hW1 := hW0.trans (hv1.mono hW0.size)
    have s3 : u1.cell? ⟨w.heap.size, 0, none⟩ = some (.int .i64 PA.f0) ∧ u1.cell? ⟨w.heap.size, 1, none⟩ = some (.int .i64 PA.f1) ∧ u1.cell? ⟨w.heap.size, 2, none⟩ = some (.int .i64 PA.f2) := ⟨(kA).at rfl, (kA).at rfl, (kA).at rfl⟩
    clear hb
    have cbA0 : u1.cell? ⟨w.heap.size, 0, none⟩ = some (.int .i64 PA.f0) := kA.at rfl
    have cbA1 : u1.cell? ⟨w.heap.size, 1, none⟩ = some (.int .i64 PA.f1) := kA.at rfl
    have cbA2 : u1.cell? ⟨w.heap.size, 2, none⟩ = some (.int .i64 PA.f2) := kA.at rfl
    go_wp2_with fail
    go_at_call 11
    refine Calls.mono (hI _ _ _ _ _ (Lies.below (w := u1) (Owns.lies gxL (hi := u1.heap.size) (lo := 0) (fun t h => ⟨Nat.zero_le _, by have := ugxL t h; omega⟩)) ee1) (Nat.le_trans (by omega) (Below.size (B := u1.heap.size) (w := u1) ee1))) ?_
    rintro e u2 ⟨xR1, yR1, SR1, rfl, roR1, suR1, hb⟩
    have hv2 : Below u1.heap.size u1 u2 := Below.trans (show Below u1.heap.size u1 _ from ee1) (hb.mono (Below.size (B := u1.heap.size) (w := u1) ee1))
    have fL := fL.below hv2
    have kA := kA.below hv2
    have gxL := Owns.below gxL hv2
    have szR1 := hb.size
    have hq2 := Nat.le_trans hq1 hv2.size
    have hz2 := hv2.size
    have ee2 : Below u2.heap.size u2 u2 := Below.refl _ _
    have hW2 := hW1.trans (hv2.mono hW1.size)
    have s3 : u2.cell? ⟨w.heap.size, 0, none⟩ = some (.int .i64 PA.f0) ∧ u2.cell? ⟨w.heap.size, 1, none⟩ = some (.int .i64 PA.f1) ∧ u2.cell? ⟨w.heap.size, 2, none⟩ = some (.int .i64 PA.f2) := ⟨(kA).at rfl, (kA).at rfl, (kA).at rfl⟩
    clear hb
    have cbA0 : u2.cell? ⟨w.heap.size, 0, none⟩ = some (.int .i64 PA.f0) := kA.at rfl
    have cbA1 : u2.cell? ⟨w.heap.size, 1, none⟩ = some (.int .i64 PA.f1) := kA.at rfl
    have cbA2 : u2.cell? ⟨w.heap.size, 2, none⟩ = some (.int .i64 PA.f2) := kA.at rfl
    go_wp2_with fail
    go_meet
    case rel => exact ⟨_, _, _, _, SR1, rfl, rfl, Blk.new _ [Value.int .i64 R.f0, .slice xR1 R.f1.length yR1, .int .i64 R.f2.f0, .int .i64 R.f2.f1, .int .i64 R.f2.f2] u2, (by omega), (by rw [gsize_alloc]; omega), (by omega), (Owns.below roR1 ((Below.refl _ _).alloc (Nat.le_refl _) _)), (fun t hS => by have q := suR1 t hS; (try simp only [gsize_alloc] at q); (try simp only [gsize_drew] at q); (try simp only [gsize_alloc]); (try simp only [gsize_set]); omega), (fun hS => by have q := suR1 _ hS; (try simp only [gsize_alloc] at q); (try simp only [gsize_drew] at q); omega), (Below.alloc hW2 hW2.size _)⟩
  case rest =>
  obtain ⟨w4, bGR, xGR1, yGR1, SGR1, rfl, rfl, BGR, lbGR, ubGR, mbGR, rGR1, urGR1, nbGR1_R, hb4⟩ := hcut
  have hs4 : w3.heap.size ≤ w4.heap.size := hb4.size
  have fL := fL.below hb4
  have kA := kA.below hb4
  have rWR1 := Owns.below rWR1 hb4
  have gxL := Owns.below gxL hb4
  have BWR := BWR.below hb4
  have hB4 := hB3.trans (hb4.mono hB3.size)
  clear hb4
  have rbGR0 : w4.cell? ⟨bGR, 0, none⟩ = some (.int .i64 R.f0) := BGR.at rfl
  have rbGR1 : w4.cell? ⟨bGR, 1, none⟩ = some (.slice xGR1 R.f1.length yGR1) := BGR.at rfl
  have rbGR2 : w4.cell? ⟨bGR, 2, none⟩ = some (.int .i64 R.f2.f0) := BGR.at rfl
  have rbGR3 : w4.cell? ⟨bGR, 3, none⟩ = some (.int .i64 R.f2.f1) := BGR.at rfl
  have rbGR4 : w4.cell? ⟨bGR, 4, none⟩ = some (.int .i64 R.f2.f2) := BGR.at rfl
  have rbWR0 : w4.cell? ⟨bWR, 0, none⟩ = some (.int .i64 R.f0) := BWR.at rfl
  have rbWR1 : w4.cell? ⟨bWR, 1, none⟩ = some (.slice xWR1 R.f1.length yWR1) := BWR.at rfl
  have rbWR2 : w4.cell? ⟨bWR, 2, none⟩ = some (.int .i64 R.f2.f0) := BWR.at rfl
  have rbWR3 : w4.cell? ⟨bWR, 3, none⟩ = some (.int .i64 R.f2.f1) := BWR.at rfl
  have rbWR4 : w4.cell? ⟨bWR, 4, none⟩ = some (.int .i64 R.f2.f2) := BWR.at rfl
  go_wp2_with fail
  go_at_call 24
  refine Calls.mono (geq_Resource R (Owns.lies rGR1 urGR1) (Owns.lies rWR1 urWR1) (by omega) (by omega)) ?_
  rintro e w5 ⟨rfl, hb5⟩
  have hs5 : w4.heap.size ≤ w5.heap.size := hb5.size
  have fL := fL.below hb5
  have kA := kA.below hb5
  have rWR1 := Owns.below rWR1 hb5
  have gxL := Owns.below gxL hb5
  have rGR1 := Owns.below rGR1 hb5
  have BWR := BWR.below hb5
  have BGR := BGR.below hb5
  have hB5 := hB4.trans (hb5.mono hB4.size)
  clear hb5
  go_wp2_with fail
  go_at_call 19
  refine Calls.mono (gto_VersionS (lo := 0) (hi := w.heap.size) fL hB5.size (by omega)) ?_
  rintro e w6 ⟨v6, rfl, ho6, hb6⟩
  obtain ⟨xyL, yyL, rfl, _⟩ : ∃ a c, v6 = .slice a lL.length c ∧ True := by obtain ⟨a, c, q, _⟩ := ho6; exact ⟨a, c, q, trivial⟩
  have hs6 : w5.heap.size ≤ w6.heap.size := hb6.size
  have fL := fL.below hb6
  have kA := kA.below hb6
  have rWR1 := Owns.below rWR1 hb6
  have gxL := Owns.below gxL hb6
  have rGR1 := Owns.below rGR1 hb6
  have BWR := BWR.below hb6
  have BGR := BGR.below hb6
  have hB6 := hB5.trans (hb6.mono hB5.size)
  clear hb6
  have gyL := ho6
  clear ho6
  have ugyL : ∀ t, Span w5.heap.size w6.heap.size t → w5.heap.size ≤ t ∧ t < w6.heap.size := fun t h => h
  go_wp2_with fail
  go_at_call 21
  refine Calls.mono (geq_VersionS (Owns.lies gxL ugxL) (Owns.lies gyL ugyL) (by omega) (by omega)) ?_
  rintro e w7 ⟨rfl, hb7⟩
  have hs7 : w6.heap.size ≤ w7.heap.size := hb7.size
  have fL := fL.below hb7
  have kA := kA.below hb7
  have rWR1 := Owns.below rWR1 hb7
  have gxL := Owns.below gxL hb7
  have rGR1 := Owns.below rGR1 hb7
  have gyL := Owns.below gyL hb7
  have BWR := BWR.below hb7
  have BGR := BGR.below hb7
  have hB7 := hB6.trans (hb7.mono hB6.size)
  clear hb7
  clear gyL ugyL
  obtain ⟨K1, hK1⟩ : ∃ y : Nat, 1 + ct (dVersion lL) = y := ⟨_, rfl⟩
  have zK1 : K1 ≤ 70000000 := by have := ctb_VersionS lL; omega
  have hM := gmark_VersionS 1 gxL (by omega)
  rw [hK1] at hM
  go_wp2_with fail
  go_at_call 25
  refine Calls.mono (hM) ?_
  rintro e w8 ⟨rfl, ho8, ht8⟩
  clear hM ho8 hK1 gxL
  have hs8 := ht8.size
  have fL := fL.turn ht8 (fun t hS h1 h2 => by have q := ugxL t hS; omega)
  have kA := (ht8.block _ kA.lt (fun hS => (by have q := ugxL _ hS; omega))).trans kA
  replace kA : Blk 45 (w.heap.size) [Value.int .i64 PA.f0, .int .i64 PA.f1, .int .i64 PA.f2] w8 := kA
  have BWR := (ht8.block _ BWR.lt (fun hS => by (have q := ugxL _ hS; omega))).trans BWR
  replace BWR : Blk 31 bWR [Value.int .i64 R.f0, .slice xWR1 R.f1.length yWR1, .int .i64 R.f2.f0, .int .i64 R.f2.f1, .int .i64 R.f2.f2] w8 := BWR
  have BGR := (ht8.block _ BGR.lt (fun hS => by (have q := ugxL _ hS; omega))).trans BGR
  replace BGR : Blk 31 bGR [Value.int .i64 R.f0, .slice xGR1 R.f1.length yGR1, .int .i64 R.f2.f0, .int .i64 R.f2.f1, .int .i64 R.f2.f2] w8 := BGR
  have rWR1 := Owns.turn rWR1 ht8 (fun t hX hS => (by have q := ugxL t hS; have p := urWR1 t hX; omega))
  have rGR1 := Owns.turn rGR1 ht8 (fun t hX hS => (by have q := ugxL t hS; have p := urGR1 t hX; omega))
  have hB8 := hB7.trans (ht8.below (fun t hS => by have q := ugxL t hS; omega) hB7.size)
  clear ht8
  have dK : decide ((K1 : Int) < 0) = false := by first | (simp; done) | (simp; omega)
  have rbGR0 : w8.cell? ⟨bGR, 0, none⟩ = some (.int .i64 R.f0) := BGR.at rfl
  have rbGR1 : w8.cell? ⟨bGR, 1, none⟩ = some (.slice xGR1 R.f1.length yGR1) := BGR.at rfl
  have rbGR2 : w8.cell? ⟨bGR, 2, none⟩ = some (.int .i64 R.f2.f0) := BGR.at rfl
  have rbGR3 : w8.cell? ⟨bGR, 3, none⟩ = some (.int .i64 R.f2.f1) := BGR.at rfl
  have rbGR4 : w8.cell? ⟨bGR, 4, none⟩ = some (.int .i64 R.f2.f2) := BGR.at rfl
  have rbWR0 : w8.cell? ⟨bWR, 0, none⟩ = some (.int .i64 R.f0) := BWR.at rfl
  have rbWR1 : w8.cell? ⟨bWR, 1, none⟩ = some (.slice xWR1 R.f1.length yWR1) := BWR.at rfl
  have rbWR2 : w8.cell? ⟨bWR, 2, none⟩ = some (.int .i64 R.f2.f0) := BWR.at rfl
  have rbWR3 : w8.cell? ⟨bWR, 3, none⟩ = some (.int .i64 R.f2.f1) := BWR.at rfl
  have rbWR4 : w8.cell? ⟨bWR, 4, none⟩ = some (.int .i64 R.f2.f2) := BWR.at rfl
  go_wp2_with fail
  go_at_call 24
  refine Calls.mono (geq_Resource R (Owns.lies rGR1 urGR1) (Owns.lies rWR1 urWR1) (by omega) (by omega)) ?_
  rintro e w9 ⟨rfl, hb9⟩
  have hs9 : w8.heap.size ≤ w9.heap.size := hb9.size
  have fL := fL.below hb9
  have kA := kA.below hb9
  have rWR1 := Owns.below rWR1 hb9
  have rGR1 := Owns.below rGR1 hb9
  have BWR := BWR.below hb9
  have BGR := BGR.below hb9
  have hB9 := hB8.trans (hb9.mono hB8.size)
  clear hb9
  obtain ⟨M1, hM1⟩ : ∃ y : Nat, 1 + ct (ints R.f1) = y := ⟨_, rfl⟩
  have zM1 : M1 ≤ 70000000 := by have := ctb_ints R.f1; omega
  have hM := gmark_Resource R 1 rGR1  (fun hS => by have q := urGR1 _ hS; omega) (by omega)
  rw [hM1] at hM
  have rbGR0 : w9.cell? ⟨bGR, 0, none⟩ = some (.int .i64 R.f0) := BGR.at rfl
  have rbGR1 : w9.cell? ⟨bGR, 1, none⟩ = some (.slice xGR1 R.f1.length yGR1) := BGR.at rfl
  have rbGR2 : w9.cell? ⟨bGR, 2, none⟩ = some (.int .i64 R.f2.f0) := BGR.at rfl
  have rbGR3 : w9.cell? ⟨bGR, 3, none⟩ = some (.int .i64 R.f2.f1) := BGR.at rfl
  have rbGR4 : w9.cell? ⟨bGR, 4, none⟩ = some (.int .i64 R.f2.f2) := BGR.at rfl
  go_wp2_with fail
  go_at_call 26
  refine Calls.mono (hM) ?_
  rintro e w10 ⟨rfl, nrGR1, ht10⟩
  clear hM
  have hs10 := ht10.size
  have fL := fL.turn ht10 (fun t hS h1 h2 => by have q := urGR1 t hS; omega)
  have kA := (ht10.block _ kA.lt (fun hS => (by have q := urGR1 _ hS; omega))).trans kA
  replace kA : Blk 45 (w.heap.size) [Value.int .i64 PA.f0, .int .i64 PA.f1, .int .i64 PA.f2] w10 := kA
  have BWR := (ht10.block _ BWR.lt (fun hS => by (have q := urGR1 _ hS; omega))).trans BWR
  replace BWR : Blk 31 bWR [Value.int .i64 R.f0, .slice xWR1 R.f1.length yWR1, .int .i64 R.f2.f0, .int .i64 R.f2.f1, .int .i64 R.f2.f2] w10 := BWR
  have BGR := (ht10.block _ BGR.lt (fun hS => by (exact absurd hS nbGR1_R))).trans BGR
  replace BGR : Blk 31 bGR [Value.int .i64 R.f0, .slice xGR1 R.f1.length yGR1, .int .i64 R.f2.f0, .int .i64 R.f2.f1, .int .i64 R.f2.f2] w10 := BGR
  have rWR1 := Owns.turn rWR1 ht10 (fun t hX hS => (by have q := urGR1 t hS; have p := urWR1 t hX; omega))
  have hB10 := hB9.trans (ht10.below (fun t hS => by have q := urGR1 t hS; omega) hB9.size)
  clear ht10
  have rGR1 := nrGR1
  clear nrGR1
  have hM := gheld_Resource R 1 (Owns.lies rGR1 urGR1) (by omega) (by omega)
  rw [hM1] at hM
  have dM : decide ((M1 : Int) < 0) = false := by first | (simp; done) | (simp; omega)
  have rbGR0 : w10.cell? ⟨bGR, 0, none⟩ = some (.int .i64 R.f0) := BGR.at rfl
  have rbGR1 : w10.cell? ⟨bGR, 1, none⟩ = some (.slice xGR1 R.f1.length yGR1) := BGR.at rfl
  have rbGR2 : w10.cell? ⟨bGR, 2, none⟩ = some (.int .i64 R.f2.f0) := BGR.at rfl
  have rbGR3 : w10.cell? ⟨bGR, 3, none⟩ = some (.int .i64 R.f2.f1) := BGR.at rfl
  have rbGR4 : w10.cell? ⟨bGR, 4, none⟩ = some (.int .i64 R.f2.f2) := BGR.at rfl
  go_wp2_with fail
  go_at_call 27
  refine Calls.mono (hM) ?_
  rintro e w11 ⟨rfl, hb11⟩
  have hs11 : w10.heap.size ≤ w11.heap.size := hb11.size
  have fL := fL.below hb11
  have kA := kA.below hb11
  have rWR1 := Owns.below rWR1 hb11
  have rGR1 := Owns.below rGR1 hb11
  have BWR := BWR.below hb11
  have BGR := BGR.below hb11
  have hB11 := hB10.trans (hb11.mono hB10.size)
  clear hb11
  clear hM
  go_upto_region 24 with fail
  go_cut [14] (fun s0 wx => ∃ (V : World) (bR : Nat) (xR1 : Option Addr) (yR1 : Nat) (SR1 : Nat → Prop), V = wx ∧ s0 = .pointer (some ⟨bR, 0, none⟩) ∧ Blk 31 bR [Value.int .i64 R.f0, .slice xR1 R.f1.length yR1, .int .i64 R.f2.f0, .int .i64 R.f2.f1, .int .i64 R.f2.f2] V ∧ (w.heap.size + 1 ≤ bR) ∧ bR < V.heap.size ∧ (w11.heap.size ≤ bR) ∧ Owns V (ints R.f1) (.slice xR1 R.f1.length yR1) SR1 ∧ (∀ t, SR1 t → w11.heap.size ≤ t ∧ t < V.heap.size) ∧ ¬ SR1 bR ∧ Below w11.heap.size w11 V)
  case first =>
    have hq0 : w.heap.size ≤ w11.heap.size := hB11.size
    have hW0 : Below w11.heap.size w11 w11 := Below.refl _ _
    have ee0 : Below w11.heap.size w11 w11 := Below.refl _ _
    have ed0 : Below w11.heap.size w11 w11.drew := (Below.refl _ _).drew
    have ea0 : Below w11.heap.size w11 (w11.alloc (.cells #[Value.int .i64 0, .slice none 0 0, .int .i64 0, .int .i64 0, .int .i64 0] 31)).drew := ((Below.refl _ _).alloc (Nat.le_refl _) _).drew
    have s3 : w11.drew.cell? ⟨w.heap.size, 0, none⟩ = some (.int .i64 PA.f0) ∧ w11.drew.cell? ⟨w.heap.size, 1, none⟩ = some (.int .i64 PA.f1) ∧ w11.drew.cell? ⟨w.heap.size, 2, none⟩ = some (.int .i64 PA.f2) := ⟨(Blk.drew kA).at rfl, (Blk.drew kA).at rfl, (Blk.drew kA).at rfl⟩
    have t3 : (w11.alloc (.cells #[Value.int .i64 0, .slice none 0 0, .int .i64 0, .int .i64 0, .int .i64 0] 31)).drew.cell? ⟨w.heap.size, 0, none⟩ = some (.int .i64 PA.f0) ∧ (w11.alloc (.cells #[Value.int .i64 0, .slice none 0 0, .int .i64 0, .int .i64 0, .int .i64 0] 31)).drew.cell? ⟨w.heap.size, 1, none⟩ = some (.int .i64 PA.f1) ∧ (w11.alloc (.cells #[Value.int .i64 0, .slice none 0 0, .int .i64 0, .int .i64 0, .int .i64 0] 31)).drew.cell? ⟨w.heap.size, 2, none⟩ = some (.int .i64 PA.f2) := ⟨(Blk.drew (Blk.alloc kA _)).at rfl, (Blk.drew (Blk.alloc kA _)).at rfl, (Blk.drew (Blk.alloc kA _)).at rfl⟩
    go_wp2_with fail
    go_region_held3 (fun w' => w'.cell? ⟨w.heap.size, 0, none⟩ = some (.int .i64 PA.f0) ∧ w'.cell? ⟨w.heap.size, 1, none⟩ = some (.int .i64 PA.f1) ∧ w'.cell? ⟨w.heap.size, 2, none⟩ = some (.int .i64 PA.f2))
      (first | (with_reducible exact s3) | (with_reducible exact t3) | (with_reducible exact t4) | (with_reducible exact v3) | go_keep)
      (first
      | (go_at_call 19; refine Calls.mono (gto_VersionS (lo := 0) (hi := w.heap.size) (fL.below (w := w11) (by first | (with_reducible exact ee0) | (with_reducible exact ed0) | (with_reducible exact ea0))) (Nat.le_trans hq0 (Below.size (B := w11.heap.size) (w := w11) (by first | (with_reducible exact ee0) | (with_reducible exact ed0) | (with_reducible exact ea0)))) (by omega)) ?_; rintro e u1 ⟨v1, rfl, ho, hb⟩; have hx1 := hb; have hv1 : Below w11.heap.size w11 u1 := Below.trans (show Below w11.heap.size w11 _ from (by first | (with_reducible exact ee0) | (with_reducible exact ed0) | (with_reducible exact ea0))) (hb.mono (Below.size (B := w11.heap.size) (w := w11) (by first | (with_reducible exact ee0) | (with_reducible exact ed0) | (with_reducible exact ea0)))); have fL := fL.below hv1; have kA := kA.below hv1; obtain ⟨XL, YL, rfl, _⟩ : ∃ a c, v1 = .slice a lL.length c ∧ True := (by obtain ⟨a, c, q, _⟩ := ho; exact ⟨a, c, q, trivial⟩); have qL := Owns.lies (lo := 0) (hi := u1.heap.size) ho (fun t h => ⟨Nat.zero_le _, h.2⟩); clear ho; have hq1 := Nat.le_trans hq0 hv1.size; have hz1 := hv1.size; have ee1 : Below u1.heap.size u1 u1 := Below.refl _ _; have ed1 := ee1; have ea1 : Below u1.heap.size u1 (u1.alloc (.cells #[Value.int .i64 0, .slice none 0 0, .int .i64 0, .int .i64 0, .int .i64 0] 31)) := (Below.refl _ _).alloc (Nat.le_refl _) _; have hW1 := hW0.trans (hv1.mono hW0.size); have s3 : u1.cell? ⟨w.heap.size, 0, none⟩ = some (.int .i64 PA.f0) ∧ u1.cell? ⟨w.heap.size, 1, none⟩ = some (.int .i64 PA.f1) ∧ u1.cell? ⟨w.heap.size, 2, none⟩ = some (.int .i64 PA.f2) := ⟨(kA).at rfl, (kA).at rfl, (kA).at rfl⟩; clear hb; have t3 : (u1.alloc (.cells #[Value.int .i64 0, .slice none 0 0, .int .i64 0, .int .i64 0, .int .i64 0] 31)).cell? ⟨w.heap.size, 0, none⟩ = some (.int .i64 PA.f0) ∧ (u1.alloc (.cells #[Value.int .i64 0, .slice none 0 0, .int .i64 0, .int .i64 0, .int .i64 0] 31)).cell? ⟨w.heap.size, 1, none⟩ = some (.int .i64 PA.f1) ∧ (u1.alloc (.cells #[Value.int .i64 0, .slice none 0 0, .int .i64 0, .int .i64 0, .int .i64 0] 31)).cell? ⟨w.heap.size, 2, none⟩ = some (.int .i64 PA.f2) := ⟨(Blk.alloc kA _).at rfl, (Blk.alloc kA _).at rfl, (Blk.alloc kA _).at rfl⟩)
      | (go_at_call 23; refine Calls.mono (gto_Address PA) ?_; rintro e u2 ⟨rfl, hb⟩; have hx2 := hb; have hv2 : Below u1.heap.size u1 u2 := Below.trans (show Below u1.heap.size u1 _ from (by first | (with_reducible exact ee1) | (with_reducible exact ed1) | (with_reducible exact ea1))) (hb.mono (Below.size (B := u1.heap.size) (w := u1) (by first | (with_reducible exact ee1) | (with_reducible exact ed1) | (with_reducible exact ea1)))); have qL := Lies.below qL hv2; have fL := fL.below hv2; have kA := kA.below hv2; have hq2 := Nat.le_trans hq1 hv2.size; have hz2 := hv2.size; have ee2 : Below u2.heap.size u2 u2 := Below.refl _ _; have ed2 := ee2; have ea2 : Below u2.heap.size u2 (u2.alloc (.cells #[Value.int .i64 0, .slice none 0 0, .int .i64 0, .int .i64 0, .int .i64 0] 31)) := (Below.refl _ _).alloc (Nat.le_refl _) _; have hW2 := hW1.trans (hv2.mono hW1.size); have s3 : u2.cell? ⟨w.heap.size, 0, none⟩ = some (.int .i64 PA.f0) ∧ u2.cell? ⟨w.heap.size, 1, none⟩ = some (.int .i64 PA.f1) ∧ u2.cell? ⟨w.heap.size, 2, none⟩ = some (.int .i64 PA.f2) := ⟨(kA).at rfl, (kA).at rfl, (kA).at rfl⟩; clear hb; have t3 : (u2.alloc (.cells #[Value.int .i64 0, .slice none 0 0, .int .i64 0, .int .i64 0, .int .i64 0] 31)).cell? ⟨w.heap.size, 0, none⟩ = some (.int .i64 PA.f0) ∧ (u2.alloc (.cells #[Value.int .i64 0, .slice none 0 0, .int .i64 0, .int .i64 0, .int .i64 0] 31)).cell? ⟨w.heap.size, 1, none⟩ = some (.int .i64 PA.f1) ∧ (u2.alloc (.cells #[Value.int .i64 0, .slice none 0 0, .int .i64 0, .int .i64 0, .int .i64 0] 31)).cell? ⟨w.heap.size, 2, none⟩ = some (.int .i64 PA.f2) := ⟨(Blk.alloc kA _).at rfl, (Blk.alloc kA _).at rfl, (Blk.alloc kA _).at rfl⟩)
      | (go_at_call 11; refine Calls.mono (hI _ _ _ _ _ (Lies.below (w := u2) qL (by first | (with_reducible exact ee2) | (with_reducible exact ed2) | (with_reducible exact ea2))) (Nat.le_trans (by omega) (Below.size (B := u2.heap.size) (w := u2) (by first | (with_reducible exact ee2) | (with_reducible exact ed2) | (with_reducible exact ea2))))) ?_; rintro e u3 ⟨xR1, yR1, SR1, rfl, roR1, suR1, hb⟩; have hx3 := hb; have hv3 : Below u2.heap.size u2 u3 := Below.trans (show Below u2.heap.size u2 _ from (by first | (with_reducible exact ee2) | (with_reducible exact ed2) | (with_reducible exact ea2))) (hb.mono (Below.size (B := u2.heap.size) (w := u2) (by first | (with_reducible exact ee2) | (with_reducible exact ed2) | (with_reducible exact ea2)))); have qL := Lies.below qL hv3; have fL := fL.below hv3; have kA := kA.below hv3; have szR1 := hb.size; have hq3 := Nat.le_trans hq2 hv3.size; have hz3 := hv3.size; have ee3 : Below u3.heap.size u3 u3 := Below.refl _ _; have ed3 := ee3; have ea3 : Below u3.heap.size u3 (u3.alloc (.cells #[Value.int .i64 0, .slice none 0 0, .int .i64 0, .int .i64 0, .int .i64 0] 31)) := (Below.refl _ _).alloc (Nat.le_refl _) _; have hW3 := hW2.trans (hv3.mono hW2.size); have s3 : u3.cell? ⟨w.heap.size, 0, none⟩ = some (.int .i64 PA.f0) ∧ u3.cell? ⟨w.heap.size, 1, none⟩ = some (.int .i64 PA.f1) ∧ u3.cell? ⟨w.heap.size, 2, none⟩ = some (.int .i64 PA.f2) := ⟨(kA).at rfl, (kA).at rfl, (kA).at rfl⟩; clear hb; have t4 : (u3.alloc (.cells #[Value.int .i64 R.f0, .slice xR1 R.f1.length yR1, .int .i64 R.f2.f0, .int .i64 R.f2.f1, .int .i64 R.f2.f2] 31)).cell? ⟨w.heap.size, 0, none⟩ = some (.int .i64 PA.f0) ∧ (u3.alloc (.cells #[Value.int .i64 R.f0, .slice xR1 R.f1.length yR1, .int .i64 R.f2.f0, .int .i64 R.f2.f1, .int .i64 R.f2.f2] 31)).cell? ⟨w.heap.size, 1, none⟩ = some (.int .i64 PA.f1) ∧ (u3.alloc (.cells #[Value.int .i64 R.f0, .slice xR1 R.f1.length yR1, .int .i64 R.f2.f0, .int .i64 R.f2.f1, .int .i64 R.f2.f2] 31)).cell? ⟨w.heap.size, 2, none⟩ = some (.int .i64 PA.f2) := ⟨(Blk.alloc kA _).at rfl, (Blk.alloc kA _).at rfl, (Blk.alloc kA _).at rfl⟩; (first | ((with_reducible have qb := ((((Blk.drew (Blk.new 31 [Value.int .i64 0, .slice none 0 0, .int .i64 0, .int .i64 0, .int .i64 0] w11)).below hx1).below hx2).below hx3)); (with_reducible have lb := Blk.lt (((Blk.drew (Blk.new 31 [Value.int .i64 0, .slice none 0 0, .int .i64 0, .int .i64 0, .int .i64 0] w11)).below hx1).below hx2)); (try simp only [gsize_alloc] at lb); (try simp only [gsize_drew] at lb); have o0 := qb.at (x := 0) rfl; have o'0 := qb.free 0; have o1 := qb.at (x := 1) rfl; have o'1 := qb.free 1; have o2 := qb.at (x := 2) rfl; have o'2 := qb.free 2; have o3 := qb.at (x := 3) rfl; have o'3 := qb.free 3; have o4 := qb.at (x := 4) rfl; have o'4 := qb.free 4; have KA := (((((kA.other (a := ⟨w11.heap.size, 0, none⟩) (.int .i64 R.f0) (by dsimp only; omega)).other (a := ⟨w11.heap.size, 1, none⟩) (.slice xR1 R.f1.length yR1) (by dsimp only; omega)).other (a := ⟨w11.heap.size, 2, none⟩) (.int .i64 R.f2.f0) (by dsimp only; omega)).other (a := ⟨w11.heap.size, 3, none⟩) (.int .i64 R.f2.f1) (by dsimp only; omega)).other (a := ⟨w11.heap.size, 4, none⟩) (.int .i64 R.f2.f2) (by dsimp only; omega)); have v3 : (((((u3.setCell ⟨w11.heap.size, 0, none⟩ (.int .i64 R.f0)).setCell ⟨w11.heap.size, 1, none⟩ (.slice xR1 R.f1.length yR1)).setCell ⟨w11.heap.size, 2, none⟩ (.int .i64 R.f2.f0)).setCell ⟨w11.heap.size, 3, none⟩ (.int .i64 R.f2.f1)).setCell ⟨w11.heap.size, 4, none⟩ (.int .i64 R.f2.f2)).cell? ⟨w.heap.size, 0, none⟩ = some (.int .i64 PA.f0) ∧ (((((u3.setCell ⟨w11.heap.size, 0, none⟩ (.int .i64 R.f0)).setCell ⟨w11.heap.size, 1, none⟩ (.slice xR1 R.f1.length yR1)).setCell ⟨w11.heap.size, 2, none⟩ (.int .i64 R.f2.f0)).setCell ⟨w11.heap.size, 3, none⟩ (.int .i64 R.f2.f1)).setCell ⟨w11.heap.size, 4, none⟩ (.int .i64 R.f2.f2)).cell? ⟨w.heap.size, 1, none⟩ = some (.int .i64 PA.f1) ∧ (((((u3.setCell ⟨w11.heap.size, 0, none⟩ (.int .i64 R.f0)).setCell ⟨w11.heap.size, 1, none⟩ (.slice xR1 R.f1.length yR1)).setCell ⟨w11.heap.size, 2, none⟩ (.int .i64 R.f2.f0)).setCell ⟨w11.heap.size, 3, none⟩ (.int .i64 R.f2.f1)).setCell ⟨w11.heap.size, 4, none⟩ (.int .i64 R.f2.f2)).cell? ⟨w.heap.size, 2, none⟩ = some (.int .i64 PA.f2) := ⟨KA.at rfl, KA.at rfl, KA.at rfl⟩) | ((with_reducible have qb := (((Blk.new 31 [Value.int .i64 0, .slice none 0 0, .int .i64 0, .int .i64 0, .int .i64 0] u1).below hx2).below hx3)); (with_reducible have lb := Blk.lt ((Blk.new 31 [Value.int .i64 0, .slice none 0 0, .int .i64 0, .int .i64 0, .int .i64 0] u1).below hx2)); (try simp only [gsize_alloc] at lb); (try simp only [gsize_drew] at lb); have o0 := qb.at (x := 0) rfl; have o'0 := qb.free 0; have o1 := qb.at (x := 1) rfl; have o'1 := qb.free 1; have o2 := qb.at (x := 2) rfl; have o'2 := qb.free 2; have o3 := qb.at (x := 3) rfl; have o'3 := qb.free 3; have o4 := qb.at (x := 4) rfl; have o'4 := qb.free 4; have KA := (((((kA.other (a := ⟨u1.heap.size, 0, none⟩) (.int .i64 R.f0) (by dsimp only; omega)).other (a := ⟨u1.heap.size, 1, none⟩) (.slice xR1 R.f1.length yR1) (by dsimp only; omega)).other (a := ⟨u1.heap.size, 2, none⟩) (.int .i64 R.f2.f0) (by dsimp only; omega)).other (a := ⟨u1.heap.size, 3, none⟩) (.int .i64 R.f2.f1) (by dsimp only; omega)).other (a := ⟨u1.heap.size, 4, none⟩) (.int .i64 R.f2.f2) (by dsimp only; omega)); have v3 : (((((u3.setCell ⟨u1.heap.size, 0, none⟩ (.int .i64 R.f0)).setCell ⟨u1.heap.size, 1, none⟩ (.slice xR1 R.f1.length yR1)).setCell ⟨u1.heap.size, 2, none⟩ (.int .i64 R.f2.f0)).setCell ⟨u1.heap.size, 3, none⟩ (.int .i64 R.f2.f1)).setCell ⟨u1.heap.size, 4, none⟩ (.int .i64 R.f2.f2)).cell? ⟨w.heap.size, 0, none⟩ = some (.int .i64 PA.f0) ∧ (((((u3.setCell ⟨u1.heap.size, 0, none⟩ (.int .i64 R.f0)).setCell ⟨u1.heap.size, 1, none⟩ (.slice xR1 R.f1.length yR1)).setCell ⟨u1.heap.size, 2, none⟩ (.int .i64 R.f2.f0)).setCell ⟨u1.heap.size, 3, none⟩ (.int .i64 R.f2.f1)).setCell ⟨u1.heap.size, 4, none⟩ (.int .i64 R.f2.f2)).cell? ⟨w.heap.size, 1, none⟩ = some (.int .i64 PA.f1) ∧ (((((u3.setCell ⟨u1.heap.size, 0, none⟩ (.int .i64 R.f0)).setCell ⟨u1.heap.size, 1, none⟩ (.slice xR1 R.f1.length yR1)).setCell ⟨u1.heap.size, 2, none⟩ (.int .i64 R.f2.f0)).setCell ⟨u1.heap.size, 3, none⟩ (.int .i64 R.f2.f1)).setCell ⟨u1.heap.size, 4, none⟩ (.int .i64 R.f2.f2)).cell? ⟨w.heap.size, 2, none⟩ = some (.int .i64 PA.f2) := ⟨KA.at rfl, KA.at rfl, KA.at rfl⟩) | ((with_reducible have qb := ((Blk.new 31 [Value.int .i64 0, .slice none 0 0, .int .i64 0, .int .i64 0, .int .i64 0] u2).below hx3)); (with_reducible have lb := Blk.lt (Blk.new 31 [Value.int .i64 0, .slice none 0 0, .int .i64 0, .int .i64 0, .int .i64 0] u2)); (try simp only [gsize_alloc] at lb); (try simp only [gsize_drew] at lb); have o0 := qb.at (x := 0) rfl; have o'0 := qb.free 0; have o1 := qb.at (x := 1) rfl; have o'1 := qb.free 1; have o2 := qb.at (x := 2) rfl; have o'2 := qb.free 2; have o3 := qb.at (x := 3) rfl; have o'3 := qb.free 3; have o4 := qb.at (x := 4) rfl; have o'4 := qb.free 4; have KA := (((((kA.other (a := ⟨u2.heap.size, 0, none⟩) (.int .i64 R.f0) (by dsimp only; omega)).other (a := ⟨u2.heap.size, 1, none⟩) (.slice xR1 R.f1.length yR1) (by dsimp only; omega)).other (a := ⟨u2.heap.size, 2, none⟩) (.int .i64 R.f2.f0) (by dsimp only; omega)).other (a := ⟨u2.heap.size, 3, none⟩) (.int .i64 R.f2.f1) (by dsimp only; omega)).other (a := ⟨u2.heap.size, 4, none⟩) (.int .i64 R.f2.f2) (by dsimp only; omega)); have v3 : (((((u3.setCell ⟨u2.heap.size, 0, none⟩ (.int .i64 R.f0)).setCell ⟨u2.heap.size, 1, none⟩ (.slice xR1 R.f1.length yR1)).setCell ⟨u2.heap.size, 2, none⟩ (.int .i64 R.f2.f0)).setCell ⟨u2.heap.size, 3, none⟩ (.int .i64 R.f2.f1)).setCell ⟨u2.heap.size, 4, none⟩ (.int .i64 R.f2.f2)).cell? ⟨w.heap.size, 0, none⟩ = some (.int .i64 PA.f0) ∧ (((((u3.setCell ⟨u2.heap.size, 0, none⟩ (.int .i64 R.f0)).setCell ⟨u2.heap.size, 1, none⟩ (.slice xR1 R.f1.length yR1)).setCell ⟨u2.heap.size, 2, none⟩ (.int .i64 R.f2.f0)).setCell ⟨u2.heap.size, 3, none⟩ (.int .i64 R.f2.f1)).setCell ⟨u2.heap.size, 4, none⟩ (.int .i64 R.f2.f2)).cell? ⟨w.heap.size, 1, none⟩ = some (.int .i64 PA.f1) ∧ (((((u3.setCell ⟨u2.heap.size, 0, none⟩ (.int .i64 R.f0)).setCell ⟨u2.heap.size, 1, none⟩ (.slice xR1 R.f1.length yR1)).setCell ⟨u2.heap.size, 2, none⟩ (.int .i64 R.f2.f0)).setCell ⟨u2.heap.size, 3, none⟩ (.int .i64 R.f2.f1)).setCell ⟨u2.heap.size, 4, none⟩ (.int .i64 R.f2.f2)).cell? ⟨w.heap.size, 2, none⟩ = some (.int .i64 PA.f2) := ⟨KA.at rfl, KA.at rfl, KA.at rfl⟩) | skip); have t3 : (u3.alloc (.cells #[Value.int .i64 0, .slice none 0 0, .int .i64 0, .int .i64 0, .int .i64 0] 31)).cell? ⟨w.heap.size, 0, none⟩ = some (.int .i64 PA.f0) ∧ (u3.alloc (.cells #[Value.int .i64 0, .slice none 0 0, .int .i64 0, .int .i64 0, .int .i64 0] 31)).cell? ⟨w.heap.size, 1, none⟩ = some (.int .i64 PA.f1) ∧ (u3.alloc (.cells #[Value.int .i64 0, .slice none 0 0, .int .i64 0, .int .i64 0, .int .i64 0] 31)).cell? ⟨w.heap.size, 2, none⟩ = some (.int .i64 PA.f2) := ⟨(Blk.alloc kA _).at rfl, (Blk.alloc kA _).at rfl, (Blk.alloc kA _).at rfl⟩)
      )
    all_goals
      go_wp2_with fail
      go_meet
      case rel =>
        first
        | exact ⟨_, _, _, _, SR1, rfl, rfl, (((((qb.set 0 (.int .i64 R.f0)).set 1 (.slice xR1 R.f1.length yR1)).set 2 (.int .i64 R.f2.f0)).set 3 (.int .i64 R.f2.f1)).set 4 (.int .i64 R.f2.f2)), (by (try simp only [gsize_drew]); omega), (by simp only [gsize_set]; exact qb.lt), (by (try simp only [gsize_drew]); omega), (Owns.keep roR1 fun t _ hS => by have q := suR1 t hS; (try simp only [gsize_alloc] at q); (try simp only [gsize_drew] at q); (iterate 5 (refine Eq.trans (Below.heap_setCell _ _ _ _ (by dsimp only; (try simp only [gsize_drew]); omega)) ?_)); rfl), (fun t hS => by have q := suR1 t hS; (try simp only [gsize_alloc] at q); (try simp only [gsize_drew] at q); (try simp only [gsize_alloc]); (try simp only [gsize_set]); omega), (fun hS => by have q := suR1 _ hS; (try simp only [gsize_alloc] at q); (try simp only [gsize_drew] at q); omega), (by (iterate 5 (refine Below.setCell ?_ (by (try dsimp only); (try simp only [gsize_drew]); omega) _)); exact hW3)⟩
        | exact ⟨_, _, _, _, SR1, rfl, rfl, Blk.new _ [Value.int .i64 R.f0, .slice xR1 R.f1.length yR1, .int .i64 R.f2.f0, .int .i64 R.f2.f1, .int .i64 R.f2.f2] u3, (by omega), (by rw [gsize_alloc]; omega), (by omega), (Owns.below roR1 ((Below.refl _ _).alloc (Nat.le_refl _) _)), (fun t hS => by have q := suR1 t hS; (try simp only [gsize_alloc] at q); (try simp only [gsize_drew] at q); (try simp only [gsize_alloc]); (try simp only [gsize_set]); omega), (fun hS => by have q := suR1 _ hS; (try simp only [gsize_alloc] at q); (try simp only [gsize_drew] at q); omega), (Below.alloc hW3 hW3.size _)⟩
  case rest =>
  obtain ⟨w12, bHR, xHR1, yHR1, SHR1, rfl, rfl, BHR, lbHR, ubHR, mbHR, rHR1, urHR1, nbHR1_R, hb12⟩ := hcut
  have hs12 : w11.heap.size ≤ w12.heap.size := hb12.size
  have fL := fL.below hb12
  have kA := kA.below hb12
  have rWR1 := Owns.below rWR1 hb12
  have rGR1 := Owns.below rGR1 hb12
  have BWR := BWR.below hb12
  have BGR := BGR.below hb12
  have hB12 := hB11.trans (hb12.mono hB11.size)
  clear hb12
  have rbHR0 : w12.cell? ⟨bHR, 0, none⟩ = some (.int .i64 R.f0) := BHR.at rfl
  have rbHR1 : w12.cell? ⟨bHR, 1, none⟩ = some (.slice xHR1 R.f1.length yHR1) := BHR.at rfl
  have rbHR2 : w12.cell? ⟨bHR, 2, none⟩ = some (.int .i64 R.f2.f0) := BHR.at rfl
  have rbHR3 : w12.cell? ⟨bHR, 3, none⟩ = some (.int .i64 R.f2.f1) := BHR.at rfl
  have rbHR4 : w12.cell? ⟨bHR, 4, none⟩ = some (.int .i64 R.f2.f2) := BHR.at rfl
  have rbWR0 : w12.cell? ⟨bWR, 0, none⟩ = some (.int .i64 R.f0) := BWR.at rfl
  have rbWR1 : w12.cell? ⟨bWR, 1, none⟩ = some (.slice xWR1 R.f1.length yWR1) := BWR.at rfl
  have rbWR2 : w12.cell? ⟨bWR, 2, none⟩ = some (.int .i64 R.f2.f0) := BWR.at rfl
  have rbWR3 : w12.cell? ⟨bWR, 3, none⟩ = some (.int .i64 R.f2.f1) := BWR.at rfl
  have rbWR4 : w12.cell? ⟨bWR, 4, none⟩ = some (.int .i64 R.f2.f2) := BWR.at rfl
  go_wp2_with fail
  go_at_call 24
  refine Calls.mono (geq_Resource R (Owns.lies rHR1 urHR1) (Owns.lies rWR1 urWR1) (by omega) (by omega)) ?_
  rintro e w13 ⟨rfl, hb13⟩
  have hs13 : w12.heap.size ≤ w13.heap.size := hb13.size
  have fL := fL.below hb13
  have kA := kA.below hb13
  have rWR1 := Owns.below rWR1 hb13
  have rGR1 := Owns.below rGR1 hb13
  have rHR1 := Owns.below rHR1 hb13
  have BWR := BWR.below hb13
  have BGR := BGR.below hb13
  have BHR := BHR.below hb13
  have hB13 := hB12.trans (hb13.mono hB12.size)
  clear hb13
  have hM := gheld_Resource R 1 (Owns.lies rGR1 urGR1) (by omega) (by omega)
  rw [hM1] at hM
  have dM : decide ((M1 : Int) < 0) = false := by first | (simp; done) | (simp; omega)
  have rbGR0 : w13.cell? ⟨bGR, 0, none⟩ = some (.int .i64 R.f0) := BGR.at rfl
  have rbGR1 : w13.cell? ⟨bGR, 1, none⟩ = some (.slice xGR1 R.f1.length yGR1) := BGR.at rfl
  have rbGR2 : w13.cell? ⟨bGR, 2, none⟩ = some (.int .i64 R.f2.f0) := BGR.at rfl
  have rbGR3 : w13.cell? ⟨bGR, 3, none⟩ = some (.int .i64 R.f2.f1) := BGR.at rfl
  have rbGR4 : w13.cell? ⟨bGR, 4, none⟩ = some (.int .i64 R.f2.f2) := BGR.at rfl
  go_wp2_with fail
  go_at_call 27
  refine Calls.mono (hM) ?_
  rintro e w14 ⟨rfl, hb14⟩
  have hs14 : w13.heap.size ≤ w14.heap.size := hb14.size
  have fL := fL.below hb14
  have kA := kA.below hb14
  have rWR1 := Owns.below rWR1 hb14
  have rGR1 := Owns.below rGR1 hb14
  have rHR1 := Owns.below rHR1 hb14
  have BWR := BWR.below hb14
  have BGR := BGR.below hb14
  have BHR := BHR.below hb14
  have hB14 := hB13.trans (hb14.mono hB13.size)
  clear hb14
  clear hM
  go_wp2
  go_ret
  exact ⟨rfl, hB14⟩
end Go.Proofs.Ytldpgkbemgpacaa.FnExactAnswerAtW
