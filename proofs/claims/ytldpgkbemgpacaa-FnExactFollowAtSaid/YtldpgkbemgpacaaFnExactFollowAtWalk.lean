/-
  The law FnExactFollowAt returns true, and leaves what was there as it was.
  Conditions: the arguments can be read.
-/
import Derived.Test.YtldpgkbemgpacaaFollowI
import Derived.Test.YtldpgkbemgpacaaFollowS
import Derived.Deep.CutBlock
import Derived.Deep.DeepCutAuto
import Derived.Deep.RegionHeld3
namespace Go.Proofs.Ytldpgkbemgpacaa.FnExactFollowAtW
open Go Go.RowKit Go.Proofs.Ytldpgkbemgpacaa.Mem Go.Proofs.Ytldpgkbemgpacaa.Gen Go.Proofs.Ytldpgkbemgpacaa.Sites
set_option linter.unusedVariables false

set_option maxHeartbeats 4000000 in
set_option maxRecDepth 100000 in
theorem law_walk (lL : List TVersion) (aL : Option Addr) (cL : Nat) (PA : TAddress) (zT : Int) (w : World) (fL : Lies 0 w.heap.size w (dVersion lL) (.slice aL lL.length cL)) (bA0 : (Lit.int .i64 PA.f0).wf = true) (bA1 : (Lit.int .i64 PA.f1).wf = true) (bA2 : (Lit.int .i64 PA.f2).wf = true) (bT : (Lit.int .i64 zT).wf = true) :
    Calls Try.prog 7 #[.slice aL lL.length cL, (Value.agg #[.int .i64 PA.f0, .int .i64 PA.f1, .int .i64 PA.f2]), .int .i64 zT] w fun e w' => e = .returned (.bool true) ∧ Below w.heap.size w w' := by
  have hB0 : Below w.heap.size w (w.alloc (.cells #[Value.int .i64 PA.f0, .int .i64 PA.f1, .int .i64 PA.f2] 45)) := by repeat' (first | exact Below.refl _ _ | assumption | refine Below.setCell ?_ ?_ _ | refine Below.alloc ?_ ?_ _ | refine Gen.gbelow_drewN ?_ _ | refine Below.drew ?_ | exact Nat.le_refl _ | omega | (dsimp only; omega) | refine Gen.gle_alloc ?_ | refine Gen.gle_set ?_ | refine Gen.gle_drewN ?_ | refine Gen.gle_drew ?_)
  have hs0 : (w.alloc (.cells #[Value.int .i64 PA.f0, .int .i64 PA.f1, .int .i64 PA.f2] 45)).heap.size = w.heap.size + 1 := by simp only [gsize_alloc]
  have kA : Blk 45 (w.heap.size) [Value.int .i64 PA.f0, .int .i64 PA.f1, .int .i64 PA.f2] (w.alloc (.cells #[Value.int .i64 PA.f0, .int .i64 PA.f1, .int .i64 PA.f2] 45)) := by
    have q := Blk.new 45 [Value.int .i64 PA.f0, .int .i64 PA.f1, .int .i64 PA.f2] w
    exact q
  have fL := fL.below hB0
  go_enter Try.func7, Try.ntmps7
  go_wp2_with fail
  go_at_call 17
  refine Calls.mono (gsz_VersionS (lo := 0) (hi := w.heap.size) fL hB0.size 1048576 (by omega) (by omega)) ?_
  rintro e w1 ⟨rfl, hb1⟩
  have hs1 : (w.alloc (.cells #[Value.int .i64 PA.f0, .int .i64 PA.f1, .int .i64 PA.f2] 45)).heap.size ≤ w1.heap.size := hb1.size
  have fL := fL.below hb1
  have kA := kA.below hb1
  have hB1 := hB0.trans (hb1.mono hB0.size)
  clear hb1
  have hl1 := left_cases 1048576 (room (dVersion lL)) (by omega)
  obtain ⟨L1, hL1⟩ : ∃ L, left 1048576 (room (dVersion lL)) = L := ⟨_, rfl⟩
  rw [hL1] at hl1 ⊢
  rcases hl1 with ⟨rfl, hl1⟩ | ⟨hl1, gl1⟩
  · go_wp2
    go_ret
    exact ⟨rfl, hB1⟩
  have dl1 : decide (L1 < 0) = false := by simp; omega
  have ml1 : L1 ≤ 1048576 := by omega
  have rmL : room (dVersion lL) ≤ 1048576 := by omega
  clear hl1 hL1
  obtain ⟨R, hR⟩ : ∃ R, (followed lL PA zT).2 = R := ⟨_, rfl⟩
  obtain ⟨Q, hQ⟩ : ∃ Q, (followed lL PA zT).1 = Q := ⟨_, rfl⟩
  have zR : room (ints R.f1) ≤ 1048576 := by obtain ⟨B, e⟩ := fol_ans (l := lL) (t := zT) (k := 4) (Q := [PA]) ⟨PA, rfl⟩; rw [← hR, room_ints]; unfold followed; rw [e]; exact Nat.le_trans (room_answer lL B zT _ (Nat.le_refl _)) rmL
  have zQ : room (dAddress Q) ≤ 1048576 := by rw [room_adrs, ← hQ]; exact Nat.le_trans (fol_len rfl) (by omega)
  have hS : ∀ (W : World) (loL hiL : Nat) (aL : Option Addr) (cL : Nat), Lies loL hiL W (dVersion lL) (.slice aL lL.length cL) → hiL ≤ W.heap.size → Calls Try.prog 32 #[.slice aL lL.length cL, (Value.agg #[.int .i64 PA.f0, .int .i64 PA.f1, .int .i64 PA.f2]), .int .i64 zT] W (fun e w' => ∃ (xR1 : Option Addr) (yR1 : Nat) (SR1 : Nat → Prop) (xQ : Option Addr) (yQ : Nat) (SQ : Nat → Prop), e = .returned (Value.tuple #[(Value.agg #[.int .i64 R.f0, .slice xR1 R.f1.length yR1, .int .i64 R.f2.f0, .int .i64 R.f2.f1, .int .i64 R.f2.f2]), .slice xQ Q.length yQ]) ∧ Owns w' (ints R.f1) (.slice xR1 R.f1.length yR1) SR1 ∧ Owns w' (dAddress Q) (.slice xQ Q.length yQ) SQ ∧ (∀ t, SR1 t → W.heap.size ≤ t ∧ t < w'.heap.size) ∧ (∀ t, SQ t → W.heap.size ≤ t ∧ t < w'.heap.size) ∧ (∀ t, SR1 t → ¬ SQ t) ∧ Below W.heap.size W w') := by
    intro W loL hiL aL cL hL sL
    refine Calls.mono (follow_spec loL hiL W aL cL lL hL sL rmL PA ⟨bA0, bA1, bA2⟩ zT) ?_
    rw [← hR, ← hQ]
    exact fun e w' h => h
  have hI : ∀ (W : World) (loL hiL : Nat) (aL : Option Addr) (cL : Nat), Lies loL hiL W (dVersion lL) (.slice aL lL.length cL) → hiL ≤ W.heap.size → Calls Try.prog 16 #[.slice aL lL.length cL, (Value.agg #[.int .i64 PA.f0, .int .i64 PA.f1, .int .i64 PA.f2]), .int .i64 zT] W (fun e w' => ∃ (xR1 : Option Addr) (yR1 : Nat) (SR1 : Nat → Prop) (xQ : Option Addr) (yQ : Nat) (SQ : Nat → Prop), e = .returned (Value.tuple #[(Value.agg #[.int .i64 R.f0, .slice xR1 R.f1.length yR1, .int .i64 R.f2.f0, .int .i64 R.f2.f1, .int .i64 R.f2.f2]), .slice xQ Q.length yQ]) ∧ Owns w' (ints R.f1) (.slice xR1 R.f1.length yR1) SR1 ∧ Owns w' (dAddress Q) (.slice xQ Q.length yQ) SQ ∧ (∀ t, SR1 t → W.heap.size ≤ t ∧ t < w'.heap.size) ∧ (∀ t, SQ t → W.heap.size ≤ t ∧ t < w'.heap.size) ∧ (∀ t, SR1 t → ¬ SQ t) ∧ Below W.heap.size W w') := by
    intro W loL hiL aL cL hL sL
    refine Calls.mono (follow_impl loL hiL W aL cL lL hL sL rmL PA ⟨bA0, bA1, bA2⟩ zT) ?_
    rw [← hR, ← hQ]
    exact fun e w' h => h
  clear hR hQ
  go_upto_region 5 with fail
  go_cut [8, 9] (fun s0 s1 wx => ∃ (V : World) (bR : Nat) (xR1 : Option Addr) (yR1 : Nat) (SR1 : Nat → Prop) (xQ : Option Addr) (yQ : Nat) (SQ : Nat → Prop), V = wx ∧ s0 = .pointer (some ⟨bR, 0, none⟩) ∧ Blk 31 bR [Value.int .i64 R.f0, .slice xR1 R.f1.length yR1, .int .i64 R.f2.f0, .int .i64 R.f2.f1, .int .i64 R.f2.f2] V ∧ (w.heap.size + 1 ≤ bR) ∧ bR < V.heap.size ∧ (w1.heap.size ≤ bR) ∧ s1 = .slice xQ Q.length yQ ∧ Owns V (ints R.f1) (.slice xR1 R.f1.length yR1) SR1 ∧ Owns V (dAddress Q) (.slice xQ Q.length yQ) SQ ∧ (∀ t, SR1 t → w1.heap.size ≤ t ∧ t < V.heap.size) ∧ (∀ t, SQ t → w1.heap.size ≤ t ∧ t < V.heap.size) ∧ (∀ t, SR1 t → ¬ SQ t) ∧ ¬ SR1 bR ∧ ¬ SQ bR ∧ Below w1.heap.size w1 V)
  case first =>
    have hq0 : w.heap.size ≤ w1.heap.size := hB1.size
    have hW0 : Below w1.heap.size w1 w1 := Below.refl _ _
    have ee0 : Below w1.heap.size w1 w1 := Below.refl _ _
    have ed0 : Below w1.heap.size w1 w1.drew := (Below.refl _ _).drew
    have ea0 : Below w1.heap.size w1 (w1.alloc (.cells #[Value.int .i64 0, .slice none 0 0, .int .i64 0, .int .i64 0, .int .i64 0] 31)).drew := ((Below.refl _ _).alloc (Nat.le_refl _) _).drew
    have s3 : w1.drew.cell? ⟨w.heap.size, 0, none⟩ = some (.int .i64 PA.f0) ∧ w1.drew.cell? ⟨w.heap.size, 1, none⟩ = some (.int .i64 PA.f1) ∧ w1.drew.cell? ⟨w.heap.size, 2, none⟩ = some (.int .i64 PA.f2) := ⟨(Blk.drew kA).at rfl, (Blk.drew kA).at rfl, (Blk.drew kA).at rfl⟩
    have t3 : (w1.alloc (.cells #[Value.int .i64 0, .slice none 0 0, .int .i64 0, .int .i64 0, .int .i64 0] 31)).drew.cell? ⟨w.heap.size, 0, none⟩ = some (.int .i64 PA.f0) ∧ (w1.alloc (.cells #[Value.int .i64 0, .slice none 0 0, .int .i64 0, .int .i64 0, .int .i64 0] 31)).drew.cell? ⟨w.heap.size, 1, none⟩ = some (.int .i64 PA.f1) ∧ (w1.alloc (.cells #[Value.int .i64 0, .slice none 0 0, .int .i64 0, .int .i64 0, .int .i64 0] 31)).drew.cell? ⟨w.heap.size, 2, none⟩ = some (.int .i64 PA.f2) := ⟨(Blk.drew (Blk.alloc kA _)).at rfl, (Blk.drew (Blk.alloc kA _)).at rfl, (Blk.drew (Blk.alloc kA _)).at rfl⟩
    go_wp2_with fail
    go_region_held3 (fun w' => w'.cell? ⟨w.heap.size, 0, none⟩ = some (.int .i64 PA.f0) ∧ w'.cell? ⟨w.heap.size, 1, none⟩ = some (.int .i64 PA.f1) ∧ w'.cell? ⟨w.heap.size, 2, none⟩ = some (.int .i64 PA.f2))
      (first | (with_reducible exact s3) | (with_reducible exact t3) | (with_reducible exact t4) | (with_reducible exact v3) | go_keep)
      (first
      | (go_at_call 19; refine Calls.mono (gto_VersionS (lo := 0) (hi := w.heap.size) (fL.below (w := w1) (by first | (with_reducible exact ee0) | (with_reducible exact ed0) | (with_reducible exact ea0))) (Nat.le_trans hq0 (Below.size (B := w1.heap.size) (w := w1) (by first | (with_reducible exact ee0) | (with_reducible exact ed0) | (with_reducible exact ea0)))) (by omega)) ?_; rintro e u1 ⟨v1, rfl, ho, hb⟩; have hx1 := hb; have hv1 : Below w1.heap.size w1 u1 := Below.trans (show Below w1.heap.size w1 _ from (by first | (with_reducible exact ee0) | (with_reducible exact ed0) | (with_reducible exact ea0))) (hb.mono (Below.size (B := w1.heap.size) (w := w1) (by first | (with_reducible exact ee0) | (with_reducible exact ed0) | (with_reducible exact ea0)))); have fL := fL.below hv1; have kA := kA.below hv1; obtain ⟨XL, YL, rfl, _⟩ : ∃ a c, v1 = .slice a lL.length c ∧ True := (by obtain ⟨a, c, q, _⟩ := ho; exact ⟨a, c, q, trivial⟩); have qL := Owns.lies (lo := 0) (hi := u1.heap.size) ho (fun t h => ⟨Nat.zero_le _, h.2⟩); clear ho; have hq1 := Nat.le_trans hq0 hv1.size; have hz1 := hv1.size; have ee1 : Below u1.heap.size u1 u1 := Below.refl _ _; have ed1 := ee1; have ea1 : Below u1.heap.size u1 (u1.alloc (.cells #[Value.int .i64 0, .slice none 0 0, .int .i64 0, .int .i64 0, .int .i64 0] 31)) := (Below.refl _ _).alloc (Nat.le_refl _) _; have hW1 := hW0.trans (hv1.mono hW0.size); have s3 : u1.cell? ⟨w.heap.size, 0, none⟩ = some (.int .i64 PA.f0) ∧ u1.cell? ⟨w.heap.size, 1, none⟩ = some (.int .i64 PA.f1) ∧ u1.cell? ⟨w.heap.size, 2, none⟩ = some (.int .i64 PA.f2) := ⟨(kA).at rfl, (kA).at rfl, (kA).at rfl⟩; clear hb; have t3 : (u1.alloc (.cells #[Value.int .i64 0, .slice none 0 0, .int .i64 0, .int .i64 0, .int .i64 0] 31)).cell? ⟨w.heap.size, 0, none⟩ = some (.int .i64 PA.f0) ∧ (u1.alloc (.cells #[Value.int .i64 0, .slice none 0 0, .int .i64 0, .int .i64 0, .int .i64 0] 31)).cell? ⟨w.heap.size, 1, none⟩ = some (.int .i64 PA.f1) ∧ (u1.alloc (.cells #[Value.int .i64 0, .slice none 0 0, .int .i64 0, .int .i64 0, .int .i64 0] 31)).cell? ⟨w.heap.size, 2, none⟩ = some (.int .i64 PA.f2) := ⟨(Blk.alloc kA _).at rfl, (Blk.alloc kA _).at rfl, (Blk.alloc kA _).at rfl⟩)
      | (go_at_call 23; refine Calls.mono (gto_Address PA) ?_; rintro e u2 ⟨rfl, hb⟩; have hx2 := hb; have hv2 : Below u1.heap.size u1 u2 := Below.trans (show Below u1.heap.size u1 _ from (by first | (with_reducible exact ee1) | (with_reducible exact ed1) | (with_reducible exact ea1))) (hb.mono (Below.size (B := u1.heap.size) (w := u1) (by first | (with_reducible exact ee1) | (with_reducible exact ed1) | (with_reducible exact ea1)))); have qL := Lies.below qL hv2; have fL := fL.below hv2; have kA := kA.below hv2; have hq2 := Nat.le_trans hq1 hv2.size; have hz2 := hv2.size; have ee2 : Below u2.heap.size u2 u2 := Below.refl _ _; have ed2 := ee2; have ea2 : Below u2.heap.size u2 (u2.alloc (.cells #[Value.int .i64 0, .slice none 0 0, .int .i64 0, .int .i64 0, .int .i64 0] 31)) := (Below.refl _ _).alloc (Nat.le_refl _) _; have hW2 := hW1.trans (hv2.mono hW1.size); have s3 : u2.cell? ⟨w.heap.size, 0, none⟩ = some (.int .i64 PA.f0) ∧ u2.cell? ⟨w.heap.size, 1, none⟩ = some (.int .i64 PA.f1) ∧ u2.cell? ⟨w.heap.size, 2, none⟩ = some (.int .i64 PA.f2) := ⟨(kA).at rfl, (kA).at rfl, (kA).at rfl⟩; clear hb; have t3 : (u2.alloc (.cells #[Value.int .i64 0, .slice none 0 0, .int .i64 0, .int .i64 0, .int .i64 0] 31)).cell? ⟨w.heap.size, 0, none⟩ = some (.int .i64 PA.f0) ∧ (u2.alloc (.cells #[Value.int .i64 0, .slice none 0 0, .int .i64 0, .int .i64 0, .int .i64 0] 31)).cell? ⟨w.heap.size, 1, none⟩ = some (.int .i64 PA.f1) ∧ (u2.alloc (.cells #[Value.int .i64 0, .slice none 0 0, .int .i64 0, .int .i64 0, .int .i64 0] 31)).cell? ⟨w.heap.size, 2, none⟩ = some (.int .i64 PA.f2) := ⟨(Blk.alloc kA _).at rfl, (Blk.alloc kA _).at rfl, (Blk.alloc kA _).at rfl⟩)
      | (go_at_call 32; refine Calls.mono (hS _ _ _ _ _ (Lies.below (w := u2) qL (by first | (with_reducible exact ee2) | (with_reducible exact ed2) | (with_reducible exact ea2))) (Nat.le_trans (by omega) (Below.size (B := u2.heap.size) (w := u2) (by first | (with_reducible exact ee2) | (with_reducible exact ed2) | (with_reducible exact ea2))))) ?_; rintro e u3 ⟨xR1, yR1, SR1, xQ, yQ, SQ, rfl, roR1, roQ, suR1, suQ, diR1_Q, hb⟩; have hx3 := hb; have hv3 : Below u2.heap.size u2 u3 := Below.trans (show Below u2.heap.size u2 _ from (by first | (with_reducible exact ee2) | (with_reducible exact ed2) | (with_reducible exact ea2))) (hb.mono (Below.size (B := u2.heap.size) (w := u2) (by first | (with_reducible exact ee2) | (with_reducible exact ed2) | (with_reducible exact ea2)))); have qL := Lies.below qL hv3; have fL := fL.below hv3; have kA := kA.below hv3; have szR1 := hb.size; have szQ := hb.size; have hq3 := Nat.le_trans hq2 hv3.size; have hz3 := hv3.size; have ee3 : Below u3.heap.size u3 u3 := Below.refl _ _; have ed3 := ee3; have ea3 : Below u3.heap.size u3 (u3.alloc (.cells #[Value.int .i64 0, .slice none 0 0, .int .i64 0, .int .i64 0, .int .i64 0] 31)) := (Below.refl _ _).alloc (Nat.le_refl _) _; have hW3 := hW2.trans (hv3.mono hW2.size); have s3 : u3.cell? ⟨w.heap.size, 0, none⟩ = some (.int .i64 PA.f0) ∧ u3.cell? ⟨w.heap.size, 1, none⟩ = some (.int .i64 PA.f1) ∧ u3.cell? ⟨w.heap.size, 2, none⟩ = some (.int .i64 PA.f2) := ⟨(kA).at rfl, (kA).at rfl, (kA).at rfl⟩; clear hb; have t4 : (u3.alloc (.cells #[Value.int .i64 R.f0, .slice xR1 R.f1.length yR1, .int .i64 R.f2.f0, .int .i64 R.f2.f1, .int .i64 R.f2.f2] 31)).cell? ⟨w.heap.size, 0, none⟩ = some (.int .i64 PA.f0) ∧ (u3.alloc (.cells #[Value.int .i64 R.f0, .slice xR1 R.f1.length yR1, .int .i64 R.f2.f0, .int .i64 R.f2.f1, .int .i64 R.f2.f2] 31)).cell? ⟨w.heap.size, 1, none⟩ = some (.int .i64 PA.f1) ∧ (u3.alloc (.cells #[Value.int .i64 R.f0, .slice xR1 R.f1.length yR1, .int .i64 R.f2.f0, .int .i64 R.f2.f1, .int .i64 R.f2.f2] 31)).cell? ⟨w.heap.size, 2, none⟩ = some (.int .i64 PA.f2) := ⟨(Blk.alloc kA _).at rfl, (Blk.alloc kA _).at rfl, (Blk.alloc kA _).at rfl⟩; (first | ((with_reducible have qb := ((((Blk.drew (Blk.new 31 [Value.int .i64 0, .slice none 0 0, .int .i64 0, .int .i64 0, .int .i64 0] w1)).below hx1).below hx2).below hx3)); (with_reducible have lb := Blk.lt (((Blk.drew (Blk.new 31 [Value.int .i64 0, .slice none 0 0, .int .i64 0, .int .i64 0, .int .i64 0] w1)).below hx1).below hx2)); (try simp only [gsize_alloc] at lb); (try simp only [gsize_drew] at lb); have o0 := qb.at (x := 0) rfl; have o'0 := qb.free 0; have o1 := qb.at (x := 1) rfl; have o'1 := qb.free 1; have o2 := qb.at (x := 2) rfl; have o'2 := qb.free 2; have o3 := qb.at (x := 3) rfl; have o'3 := qb.free 3; have o4 := qb.at (x := 4) rfl; have o'4 := qb.free 4; have KA := (((((kA.other (a := ⟨w1.heap.size, 0, none⟩) (.int .i64 R.f0) (by dsimp only; omega)).other (a := ⟨w1.heap.size, 1, none⟩) (.slice xR1 R.f1.length yR1) (by dsimp only; omega)).other (a := ⟨w1.heap.size, 2, none⟩) (.int .i64 R.f2.f0) (by dsimp only; omega)).other (a := ⟨w1.heap.size, 3, none⟩) (.int .i64 R.f2.f1) (by dsimp only; omega)).other (a := ⟨w1.heap.size, 4, none⟩) (.int .i64 R.f2.f2) (by dsimp only; omega)); have v3 : (((((u3.setCell ⟨w1.heap.size, 0, none⟩ (.int .i64 R.f0)).setCell ⟨w1.heap.size, 1, none⟩ (.slice xR1 R.f1.length yR1)).setCell ⟨w1.heap.size, 2, none⟩ (.int .i64 R.f2.f0)).setCell ⟨w1.heap.size, 3, none⟩ (.int .i64 R.f2.f1)).setCell ⟨w1.heap.size, 4, none⟩ (.int .i64 R.f2.f2)).cell? ⟨w.heap.size, 0, none⟩ = some (.int .i64 PA.f0) ∧ (((((u3.setCell ⟨w1.heap.size, 0, none⟩ (.int .i64 R.f0)).setCell ⟨w1.heap.size, 1, none⟩ (.slice xR1 R.f1.length yR1)).setCell ⟨w1.heap.size, 2, none⟩ (.int .i64 R.f2.f0)).setCell ⟨w1.heap.size, 3, none⟩ (.int .i64 R.f2.f1)).setCell ⟨w1.heap.size, 4, none⟩ (.int .i64 R.f2.f2)).cell? ⟨w.heap.size, 1, none⟩ = some (.int .i64 PA.f1) ∧ (((((u3.setCell ⟨w1.heap.size, 0, none⟩ (.int .i64 R.f0)).setCell ⟨w1.heap.size, 1, none⟩ (.slice xR1 R.f1.length yR1)).setCell ⟨w1.heap.size, 2, none⟩ (.int .i64 R.f2.f0)).setCell ⟨w1.heap.size, 3, none⟩ (.int .i64 R.f2.f1)).setCell ⟨w1.heap.size, 4, none⟩ (.int .i64 R.f2.f2)).cell? ⟨w.heap.size, 2, none⟩ = some (.int .i64 PA.f2) := ⟨KA.at rfl, KA.at rfl, KA.at rfl⟩) | ((with_reducible have qb := (((Blk.new 31 [Value.int .i64 0, .slice none 0 0, .int .i64 0, .int .i64 0, .int .i64 0] u1).below hx2).below hx3)); (with_reducible have lb := Blk.lt ((Blk.new 31 [Value.int .i64 0, .slice none 0 0, .int .i64 0, .int .i64 0, .int .i64 0] u1).below hx2)); (try simp only [gsize_alloc] at lb); (try simp only [gsize_drew] at lb); have o0 := qb.at (x := 0) rfl; have o'0 := qb.free 0; have o1 := qb.at (x := 1) rfl; have o'1 := qb.free 1; have o2 := qb.at (x := 2) rfl; have o'2 := qb.free 2; have o3 := qb.at (x := 3) rfl; have o'3 := qb.free 3; have o4 := qb.at (x := 4) rfl; have o'4 := qb.free 4; have KA := (((((kA.other (a := ⟨u1.heap.size, 0, none⟩) (.int .i64 R.f0) (by dsimp only; omega)).other (a := ⟨u1.heap.size, 1, none⟩) (.slice xR1 R.f1.length yR1) (by dsimp only; omega)).other (a := ⟨u1.heap.size, 2, none⟩) (.int .i64 R.f2.f0) (by dsimp only; omega)).other (a := ⟨u1.heap.size, 3, none⟩) (.int .i64 R.f2.f1) (by dsimp only; omega)).other (a := ⟨u1.heap.size, 4, none⟩) (.int .i64 R.f2.f2) (by dsimp only; omega)); have v3 : (((((u3.setCell ⟨u1.heap.size, 0, none⟩ (.int .i64 R.f0)).setCell ⟨u1.heap.size, 1, none⟩ (.slice xR1 R.f1.length yR1)).setCell ⟨u1.heap.size, 2, none⟩ (.int .i64 R.f2.f0)).setCell ⟨u1.heap.size, 3, none⟩ (.int .i64 R.f2.f1)).setCell ⟨u1.heap.size, 4, none⟩ (.int .i64 R.f2.f2)).cell? ⟨w.heap.size, 0, none⟩ = some (.int .i64 PA.f0) ∧ (((((u3.setCell ⟨u1.heap.size, 0, none⟩ (.int .i64 R.f0)).setCell ⟨u1.heap.size, 1, none⟩ (.slice xR1 R.f1.length yR1)).setCell ⟨u1.heap.size, 2, none⟩ (.int .i64 R.f2.f0)).setCell ⟨u1.heap.size, 3, none⟩ (.int .i64 R.f2.f1)).setCell ⟨u1.heap.size, 4, none⟩ (.int .i64 R.f2.f2)).cell? ⟨w.heap.size, 1, none⟩ = some (.int .i64 PA.f1) ∧ (((((u3.setCell ⟨u1.heap.size, 0, none⟩ (.int .i64 R.f0)).setCell ⟨u1.heap.size, 1, none⟩ (.slice xR1 R.f1.length yR1)).setCell ⟨u1.heap.size, 2, none⟩ (.int .i64 R.f2.f0)).setCell ⟨u1.heap.size, 3, none⟩ (.int .i64 R.f2.f1)).setCell ⟨u1.heap.size, 4, none⟩ (.int .i64 R.f2.f2)).cell? ⟨w.heap.size, 2, none⟩ = some (.int .i64 PA.f2) := ⟨KA.at rfl, KA.at rfl, KA.at rfl⟩) | ((with_reducible have qb := ((Blk.new 31 [Value.int .i64 0, .slice none 0 0, .int .i64 0, .int .i64 0, .int .i64 0] u2).below hx3)); (with_reducible have lb := Blk.lt (Blk.new 31 [Value.int .i64 0, .slice none 0 0, .int .i64 0, .int .i64 0, .int .i64 0] u2)); (try simp only [gsize_alloc] at lb); (try simp only [gsize_drew] at lb); have o0 := qb.at (x := 0) rfl; have o'0 := qb.free 0; have o1 := qb.at (x := 1) rfl; have o'1 := qb.free 1; have o2 := qb.at (x := 2) rfl; have o'2 := qb.free 2; have o3 := qb.at (x := 3) rfl; have o'3 := qb.free 3; have o4 := qb.at (x := 4) rfl; have o'4 := qb.free 4; have KA := (((((kA.other (a := ⟨u2.heap.size, 0, none⟩) (.int .i64 R.f0) (by dsimp only; omega)).other (a := ⟨u2.heap.size, 1, none⟩) (.slice xR1 R.f1.length yR1) (by dsimp only; omega)).other (a := ⟨u2.heap.size, 2, none⟩) (.int .i64 R.f2.f0) (by dsimp only; omega)).other (a := ⟨u2.heap.size, 3, none⟩) (.int .i64 R.f2.f1) (by dsimp only; omega)).other (a := ⟨u2.heap.size, 4, none⟩) (.int .i64 R.f2.f2) (by dsimp only; omega)); have v3 : (((((u3.setCell ⟨u2.heap.size, 0, none⟩ (.int .i64 R.f0)).setCell ⟨u2.heap.size, 1, none⟩ (.slice xR1 R.f1.length yR1)).setCell ⟨u2.heap.size, 2, none⟩ (.int .i64 R.f2.f0)).setCell ⟨u2.heap.size, 3, none⟩ (.int .i64 R.f2.f1)).setCell ⟨u2.heap.size, 4, none⟩ (.int .i64 R.f2.f2)).cell? ⟨w.heap.size, 0, none⟩ = some (.int .i64 PA.f0) ∧ (((((u3.setCell ⟨u2.heap.size, 0, none⟩ (.int .i64 R.f0)).setCell ⟨u2.heap.size, 1, none⟩ (.slice xR1 R.f1.length yR1)).setCell ⟨u2.heap.size, 2, none⟩ (.int .i64 R.f2.f0)).setCell ⟨u2.heap.size, 3, none⟩ (.int .i64 R.f2.f1)).setCell ⟨u2.heap.size, 4, none⟩ (.int .i64 R.f2.f2)).cell? ⟨w.heap.size, 1, none⟩ = some (.int .i64 PA.f1) ∧ (((((u3.setCell ⟨u2.heap.size, 0, none⟩ (.int .i64 R.f0)).setCell ⟨u2.heap.size, 1, none⟩ (.slice xR1 R.f1.length yR1)).setCell ⟨u2.heap.size, 2, none⟩ (.int .i64 R.f2.f0)).setCell ⟨u2.heap.size, 3, none⟩ (.int .i64 R.f2.f1)).setCell ⟨u2.heap.size, 4, none⟩ (.int .i64 R.f2.f2)).cell? ⟨w.heap.size, 2, none⟩ = some (.int .i64 PA.f2) := ⟨KA.at rfl, KA.at rfl, KA.at rfl⟩) | skip); have t3 : (u3.alloc (.cells #[Value.int .i64 0, .slice none 0 0, .int .i64 0, .int .i64 0, .int .i64 0] 31)).cell? ⟨w.heap.size, 0, none⟩ = some (.int .i64 PA.f0) ∧ (u3.alloc (.cells #[Value.int .i64 0, .slice none 0 0, .int .i64 0, .int .i64 0, .int .i64 0] 31)).cell? ⟨w.heap.size, 1, none⟩ = some (.int .i64 PA.f1) ∧ (u3.alloc (.cells #[Value.int .i64 0, .slice none 0 0, .int .i64 0, .int .i64 0, .int .i64 0] 31)).cell? ⟨w.heap.size, 2, none⟩ = some (.int .i64 PA.f2) := ⟨(Blk.alloc kA _).at rfl, (Blk.alloc kA _).at rfl, (Blk.alloc kA _).at rfl⟩)
      )
    all_goals
      go_wp2_with fail
      go_meet
      case rel =>
        first
        | exact ⟨_, _, _, _, SR1, _, _, SQ, rfl, rfl, (((((qb.set 0 (.int .i64 R.f0)).set 1 (.slice xR1 R.f1.length yR1)).set 2 (.int .i64 R.f2.f0)).set 3 (.int .i64 R.f2.f1)).set 4 (.int .i64 R.f2.f2)), (by (try simp only [gsize_drew]); omega), (by simp only [gsize_set]; exact qb.lt), (by (try simp only [gsize_drew]); omega), rfl, (Owns.keep roR1 fun t _ hS => by have q := suR1 t hS; (try simp only [gsize_alloc] at q); (try simp only [gsize_drew] at q); (iterate 5 (refine Eq.trans (Below.heap_setCell _ _ _ _ (by dsimp only; (try simp only [gsize_drew]); omega)) ?_)); rfl), (Owns.keep roQ fun t _ hS => by have q := suQ t hS; (try simp only [gsize_alloc] at q); (try simp only [gsize_drew] at q); (iterate 5 (refine Eq.trans (Below.heap_setCell _ _ _ _ (by dsimp only; (try simp only [gsize_drew]); omega)) ?_)); rfl), (fun t hS => by have q := suR1 t hS; (try simp only [gsize_alloc] at q); (try simp only [gsize_drew] at q); (try simp only [gsize_alloc]); (try simp only [gsize_set]); omega), (fun t hS => by have q := suQ t hS; (try simp only [gsize_alloc] at q); (try simp only [gsize_drew] at q); (try simp only [gsize_alloc]); (try simp only [gsize_set]); omega), diR1_Q, (fun hS => by have q := suR1 _ hS; (try simp only [gsize_alloc] at q); (try simp only [gsize_drew] at q); omega), (fun hS => by have q := suQ _ hS; (try simp only [gsize_alloc] at q); (try simp only [gsize_drew] at q); omega), (by (iterate 5 (refine Below.setCell ?_ (by (try dsimp only); (try simp only [gsize_drew]); omega) _)); exact hW3)⟩
        | exact ⟨_, _, _, _, SR1, _, _, SQ, rfl, rfl, Blk.new _ [Value.int .i64 R.f0, .slice xR1 R.f1.length yR1, .int .i64 R.f2.f0, .int .i64 R.f2.f1, .int .i64 R.f2.f2] u3, (by omega), (by rw [gsize_alloc]; omega), (by omega), rfl, (Owns.below roR1 ((Below.refl _ _).alloc (Nat.le_refl _) _)), (Owns.below roQ ((Below.refl _ _).alloc (Nat.le_refl _) _)), (fun t hS => by have q := suR1 t hS; (try simp only [gsize_alloc] at q); (try simp only [gsize_drew] at q); (try simp only [gsize_alloc]); (try simp only [gsize_set]); omega), (fun t hS => by have q := suQ t hS; (try simp only [gsize_alloc] at q); (try simp only [gsize_drew] at q); (try simp only [gsize_alloc]); (try simp only [gsize_set]); omega), diR1_Q, (fun hS => by have q := suR1 _ hS; (try simp only [gsize_alloc] at q); (try simp only [gsize_drew] at q); omega), (fun hS => by have q := suQ _ hS; (try simp only [gsize_alloc] at q); (try simp only [gsize_drew] at q); omega), (Below.alloc hW3 hW3.size _)⟩
  case rest =>
  obtain ⟨w2, bWR, xWR1, yWR1, SWR1, xWQ, yWQ, SWQ, rfl, rfl, BWR, lbWR, ubWR, mbWR, rfl, rWR1, rWQ, urWR1, urWQ, udWR1_Q, nbWR1_R, nbWQ_R, hb2⟩ := hcut
  have hs2 : w1.heap.size ≤ w2.heap.size := hb2.size
  have fL := fL.below hb2
  have kA := kA.below hb2
  have hB2 := hB1.trans (hb2.mono hB1.size)
  clear hb2
  go_wp2_with fail
  go_at_call 19
  refine Calls.mono (gto_VersionS (lo := 0) (hi := w.heap.size) fL hB2.size (by omega)) ?_
  rintro e w3 ⟨v3, rfl, ho3, hb3⟩
  obtain ⟨xxL, yxL, rfl, _⟩ : ∃ a c, v3 = .slice a lL.length c ∧ True := by obtain ⟨a, c, q, _⟩ := ho3; exact ⟨a, c, q, trivial⟩
  have hs3 : w2.heap.size ≤ w3.heap.size := hb3.size
  have fL := fL.below hb3
  have kA := kA.below hb3
  have rWR1 := Owns.below rWR1 hb3
  have rWQ := Owns.below rWQ hb3
  have BWR := BWR.below hb3
  have hB3 := hB2.trans (hb3.mono hB2.size)
  clear hb3
  have gxL := ho3
  clear ho3
  have ugxL : ∀ t, Span w2.heap.size w3.heap.size t → w2.heap.size ≤ t ∧ t < w3.heap.size := fun t h => h
  go_upto_region 7 with fail
  go_cut [11, 12] (fun s0 s1 wx => ∃ (V : World) (bR : Nat) (xR1 : Option Addr) (yR1 : Nat) (SR1 : Nat → Prop) (xQ : Option Addr) (yQ : Nat) (SQ : Nat → Prop), V = wx ∧ s0 = .pointer (some ⟨bR, 0, none⟩) ∧ Blk 31 bR [Value.int .i64 R.f0, .slice xR1 R.f1.length yR1, .int .i64 R.f2.f0, .int .i64 R.f2.f1, .int .i64 R.f2.f2] V ∧ (w.heap.size + 1 ≤ bR) ∧ bR < V.heap.size ∧ (w3.heap.size ≤ bR) ∧ s1 = .slice xQ Q.length yQ ∧ Owns V (ints R.f1) (.slice xR1 R.f1.length yR1) SR1 ∧ Owns V (dAddress Q) (.slice xQ Q.length yQ) SQ ∧ (∀ t, SR1 t → w3.heap.size ≤ t ∧ t < V.heap.size) ∧ (∀ t, SQ t → w3.heap.size ≤ t ∧ t < V.heap.size) ∧ (∀ t, SR1 t → ¬ SQ t) ∧ ¬ SR1 bR ∧ ¬ SQ bR ∧ Below w3.heap.size w3 V)
  case first =>
    have hq0 : w.heap.size ≤ w3.heap.size := hB3.size
    have hW0 : Below w3.heap.size w3 w3 := Below.refl _ _
    have ee0 : Below w3.heap.size w3 w3 := Below.refl _ _
    have cbA0 : w3.cell? ⟨w.heap.size, 0, none⟩ = some (.int .i64 PA.f0) := kA.at rfl
    have cbA1 : w3.cell? ⟨w.heap.size, 1, none⟩ = some (.int .i64 PA.f1) := kA.at rfl
    have cbA2 : w3.cell? ⟨w.heap.size, 2, none⟩ = some (.int .i64 PA.f2) := kA.at rfl
    go_wp2_with fail
    go_at_call 23
    refine Calls.mono (gto_Address PA) ?_
    rintro e u1 ⟨rfl, hb⟩
    have hv1 : Below w3.heap.size w3 u1 := Below.trans (show Below w3.heap.size w3 _ from ee0) (hb.mono (Below.size (B := w3.heap.size) (w := w3) ee0))
    have fL := fL.below hv1
    have kA := kA.below hv1
    have gxL := Owns.below gxL hv1
    have hq1 := Nat.le_trans hq0 hv1.size
    have hz1 := hv1.size
    have ee1 : Below u1.heap.size u1 u1 := Below.refl _ _
    have hW1 := hW0.trans (hv1.mono hW0.size)
    have s3 : u1.cell? ⟨w.heap.size, 0, none⟩ = some (.int .i64 PA.f0) ∧ u1.cell? ⟨w.heap.size, 1, none⟩ = some (.int .i64 PA.f1) ∧ u1.cell? ⟨w.heap.size, 2, none⟩ = some (.int .i64 PA.f2) := ⟨(kA).at rfl, (kA).at rfl, (kA).at rfl⟩
    clear hb
    have cbA0 : u1.cell? ⟨w.heap.size, 0, none⟩ = some (.int .i64 PA.f0) := kA.at rfl
    have cbA1 : u1.cell? ⟨w.heap.size, 1, none⟩ = some (.int .i64 PA.f1) := kA.at rfl
    have cbA2 : u1.cell? ⟨w.heap.size, 2, none⟩ = some (.int .i64 PA.f2) := kA.at rfl
    go_wp2_with fail
    go_at_call 16
    refine Calls.mono (hI _ _ _ _ _ (Lies.below (w := u1) (Owns.lies gxL (hi := u1.heap.size) (lo := 0) (fun t h => ⟨Nat.zero_le _, by have := ugxL t h; omega⟩)) ee1) (Nat.le_trans (by omega) (Below.size (B := u1.heap.size) (w := u1) ee1))) ?_
    rintro e u2 ⟨xR1, yR1, SR1, xQ, yQ, SQ, rfl, roR1, roQ, suR1, suQ, diR1_Q, hb⟩
    have hv2 : Below u1.heap.size u1 u2 := Below.trans (show Below u1.heap.size u1 _ from ee1) (hb.mono (Below.size (B := u1.heap.size) (w := u1) ee1))
    have fL := fL.below hv2
    have kA := kA.below hv2
    have gxL := Owns.below gxL hv2
    have szR1 := hb.size
    have szQ := hb.size
    have hq2 := Nat.le_trans hq1 hv2.size
    have hz2 := hv2.size
    have ee2 : Below u2.heap.size u2 u2 := Below.refl _ _
    have hW2 := hW1.trans (hv2.mono hW1.size)
    have s3 : u2.cell? ⟨w.heap.size, 0, none⟩ = some (.int .i64 PA.f0) ∧ u2.cell? ⟨w.heap.size, 1, none⟩ = some (.int .i64 PA.f1) ∧ u2.cell? ⟨w.heap.size, 2, none⟩ = some (.int .i64 PA.f2) := ⟨(kA).at rfl, (kA).at rfl, (kA).at rfl⟩
    clear hb
    have cbA0 : u2.cell? ⟨w.heap.size, 0, none⟩ = some (.int .i64 PA.f0) := kA.at rfl
    have cbA1 : u2.cell? ⟨w.heap.size, 1, none⟩ = some (.int .i64 PA.f1) := kA.at rfl
    have cbA2 : u2.cell? ⟨w.heap.size, 2, none⟩ = some (.int .i64 PA.f2) := kA.at rfl
    go_wp2_with fail
    go_meet
    case rel => exact ⟨_, _, _, _, SR1, _, _, SQ, rfl, rfl, Blk.new _ [Value.int .i64 R.f0, .slice xR1 R.f1.length yR1, .int .i64 R.f2.f0, .int .i64 R.f2.f1, .int .i64 R.f2.f2] u2, (by omega), (by rw [gsize_alloc]; omega), (by omega), rfl, (Owns.below roR1 ((Below.refl _ _).alloc (Nat.le_refl _) _)), (Owns.below roQ ((Below.refl _ _).alloc (Nat.le_refl _) _)), (fun t hS => by have q := suR1 t hS; (try simp only [gsize_alloc] at q); (try simp only [gsize_drew] at q); (try simp only [gsize_alloc]); (try simp only [gsize_set]); omega), (fun t hS => by have q := suQ t hS; (try simp only [gsize_alloc] at q); (try simp only [gsize_drew] at q); (try simp only [gsize_alloc]); (try simp only [gsize_set]); omega), diR1_Q, (fun hS => by have q := suR1 _ hS; (try simp only [gsize_alloc] at q); (try simp only [gsize_drew] at q); omega), (fun hS => by have q := suQ _ hS; (try simp only [gsize_alloc] at q); (try simp only [gsize_drew] at q); omega), (Below.alloc hW2 hW2.size _)⟩
  case rest =>
  obtain ⟨w4, bGR, xGR1, yGR1, SGR1, xGQ, yGQ, SGQ, rfl, rfl, BGR, lbGR, ubGR, mbGR, rfl, rGR1, rGQ, urGR1, urGQ, udGR1_Q, nbGR1_R, nbGQ_R, hb4⟩ := hcut
  have hs4 : w3.heap.size ≤ w4.heap.size := hb4.size
  have fL := fL.below hb4
  have kA := kA.below hb4
  have rWR1 := Owns.below rWR1 hb4
  have rWQ := Owns.below rWQ hb4
  have gxL := Owns.below gxL hb4
  have BWR := BWR.below hb4
  have hB4 := hB3.trans (hb4.mono hB3.size)
  clear hb4
  have rbGR0 : w4.cell? ⟨bGR, 0, none⟩ = some (.int .i64 R.f0) := BGR.at rfl
  have rbGR1 : w4.cell? ⟨bGR, 1, none⟩ = some (.slice xGR1 R.f1.length yGR1) := BGR.at rfl
  have rbGR2 : w4.cell? ⟨bGR, 2, none⟩ = some (.int .i64 R.f2.f0) := BGR.at rfl
  have rbGR3 : w4.cell? ⟨bGR, 3, none⟩ = some (.int .i64 R.f2.f1) := BGR.at rfl
  have rbGR4 : w4.cell? ⟨bGR, 4, none⟩ = some (.int .i64 R.f2.f2) := BGR.at rfl
  have rbWR0 : w4.cell? ⟨bWR, 0, none⟩ = some (.int .i64 R.f0) := BWR.at rfl
  have rbWR1 : w4.cell? ⟨bWR, 1, none⟩ = some (.slice xWR1 R.f1.length yWR1) := BWR.at rfl
  have rbWR2 : w4.cell? ⟨bWR, 2, none⟩ = some (.int .i64 R.f2.f0) := BWR.at rfl
  have rbWR3 : w4.cell? ⟨bWR, 3, none⟩ = some (.int .i64 R.f2.f1) := BWR.at rfl
  have rbWR4 : w4.cell? ⟨bWR, 4, none⟩ = some (.int .i64 R.f2.f2) := BWR.at rfl
  go_wp2_with fail
  go_at_call 24
  refine Calls.mono (geq_Resource R (Owns.lies rGR1 urGR1) (Owns.lies rWR1 urWR1) (by omega) (by omega)) ?_
  rintro e w5 ⟨rfl, hb5⟩
  have hs5 : w4.heap.size ≤ w5.heap.size := hb5.size
  have fL := fL.below hb5
  have kA := kA.below hb5
  have rWR1 := Owns.below rWR1 hb5
  have rWQ := Owns.below rWQ hb5
  have gxL := Owns.below gxL hb5
  have rGR1 := Owns.below rGR1 hb5
  have rGQ := Owns.below rGQ hb5
  have BWR := BWR.below hb5
  have BGR := BGR.below hb5
  have hB5 := hB4.trans (hb5.mono hB4.size)
  clear hb5
  go_wp2_with fail
  go_at_call 33
  refine Calls.mono (geq_AddressS (Owns.lies rGQ urGQ) (Owns.lies rWQ urWQ) (by omega) (by omega)) ?_
  rintro e w6 ⟨rfl, hb6⟩
  have hs6 : w5.heap.size ≤ w6.heap.size := hb6.size
  have fL := fL.below hb6
  have kA := kA.below hb6
  have rWR1 := Owns.below rWR1 hb6
  have rWQ := Owns.below rWQ hb6
  have gxL := Owns.below gxL hb6
  have rGR1 := Owns.below rGR1 hb6
  have rGQ := Owns.below rGQ hb6
  have BWR := BWR.below hb6
  have BGR := BGR.below hb6
  have hB6 := hB5.trans (hb6.mono hB5.size)
  clear hb6
  go_wp2_with fail
  go_at_call 19
  refine Calls.mono (gto_VersionS (lo := 0) (hi := w.heap.size) fL hB6.size (by omega)) ?_
  rintro e w7 ⟨v7, rfl, ho7, hb7⟩
  obtain ⟨xyL, yyL, rfl, _⟩ : ∃ a c, v7 = .slice a lL.length c ∧ True := by obtain ⟨a, c, q, _⟩ := ho7; exact ⟨a, c, q, trivial⟩
  have hs7 : w6.heap.size ≤ w7.heap.size := hb7.size
  have fL := fL.below hb7
  have kA := kA.below hb7
  have rWR1 := Owns.below rWR1 hb7
  have rWQ := Owns.below rWQ hb7
  have gxL := Owns.below gxL hb7
  have rGR1 := Owns.below rGR1 hb7
  have rGQ := Owns.below rGQ hb7
  have BWR := BWR.below hb7
  have BGR := BGR.below hb7
  have hB7 := hB6.trans (hb7.mono hB6.size)
  clear hb7
  have gyL := ho7
  clear ho7
  have ugyL : ∀ t, Span w6.heap.size w7.heap.size t → w6.heap.size ≤ t ∧ t < w7.heap.size := fun t h => h
  go_wp2_with fail
  go_at_call 21
  refine Calls.mono (geq_VersionS (Owns.lies gxL ugxL) (Owns.lies gyL ugyL) (by omega) (by omega)) ?_
  rintro e w8 ⟨rfl, hb8⟩
  have hs8 : w7.heap.size ≤ w8.heap.size := hb8.size
  have fL := fL.below hb8
  have kA := kA.below hb8
  have rWR1 := Owns.below rWR1 hb8
  have rWQ := Owns.below rWQ hb8
  have gxL := Owns.below gxL hb8
  have rGR1 := Owns.below rGR1 hb8
  have rGQ := Owns.below rGQ hb8
  have gyL := Owns.below gyL hb8
  have BWR := BWR.below hb8
  have BGR := BGR.below hb8
  have hB8 := hB7.trans (hb8.mono hB7.size)
  clear hb8
  clear gyL ugyL
  obtain ⟨K1, hK1⟩ : ∃ y : Nat, 1 + ct (dVersion lL) = y := ⟨_, rfl⟩
  have zK1 : K1 ≤ 70000000 := by have := ctb_VersionS lL; omega
  have hM := gmark_VersionS 1 gxL (by omega)
  rw [hK1] at hM
  go_wp2_with fail
  go_at_call 25
  refine Calls.mono (hM) ?_
  rintro e w9 ⟨rfl, ho9, ht9⟩
  clear hM ho9 hK1 gxL
  have hs9 := ht9.size
  have fL := fL.turn ht9 (fun t hS h1 h2 => by have q := ugxL t hS; omega)
  have kA := (ht9.block _ kA.lt (fun hS => (by have q := ugxL _ hS; omega))).trans kA
  replace kA : Blk 45 (w.heap.size) [Value.int .i64 PA.f0, .int .i64 PA.f1, .int .i64 PA.f2] w9 := kA
  have BWR := (ht9.block _ BWR.lt (fun hS => by (have q := ugxL _ hS; omega))).trans BWR
  replace BWR : Blk 31 bWR [Value.int .i64 R.f0, .slice xWR1 R.f1.length yWR1, .int .i64 R.f2.f0, .int .i64 R.f2.f1, .int .i64 R.f2.f2] w9 := BWR
  have BGR := (ht9.block _ BGR.lt (fun hS => by (have q := ugxL _ hS; omega))).trans BGR
  replace BGR : Blk 31 bGR [Value.int .i64 R.f0, .slice xGR1 R.f1.length yGR1, .int .i64 R.f2.f0, .int .i64 R.f2.f1, .int .i64 R.f2.f2] w9 := BGR
  have rWR1 := Owns.turn rWR1 ht9 (fun t hX hS => (by have q := ugxL t hS; have p := urWR1 t hX; omega))
  have rWQ := Owns.turn rWQ ht9 (fun t hX hS => (by have q := ugxL t hS; have p := urWQ t hX; omega))
  have rGR1 := Owns.turn rGR1 ht9 (fun t hX hS => (by have q := ugxL t hS; have p := urGR1 t hX; omega))
  have rGQ := Owns.turn rGQ ht9 (fun t hX hS => (by have q := ugxL t hS; have p := urGQ t hX; omega))
  have hB9 := hB8.trans (ht9.below (fun t hS => by have q := ugxL t hS; omega) hB8.size)
  clear ht9
  have dK : decide ((K1 : Int) < 0) = false := by first | (simp; done) | (simp; omega)
  have rbGR0 : w9.cell? ⟨bGR, 0, none⟩ = some (.int .i64 R.f0) := BGR.at rfl
  have rbGR1 : w9.cell? ⟨bGR, 1, none⟩ = some (.slice xGR1 R.f1.length yGR1) := BGR.at rfl
  have rbGR2 : w9.cell? ⟨bGR, 2, none⟩ = some (.int .i64 R.f2.f0) := BGR.at rfl
  have rbGR3 : w9.cell? ⟨bGR, 3, none⟩ = some (.int .i64 R.f2.f1) := BGR.at rfl
  have rbGR4 : w9.cell? ⟨bGR, 4, none⟩ = some (.int .i64 R.f2.f2) := BGR.at rfl
  have rbWR0 : w9.cell? ⟨bWR, 0, none⟩ = some (.int .i64 R.f0) := BWR.at rfl
  have rbWR1 : w9.cell? ⟨bWR, 1, none⟩ = some (.slice xWR1 R.f1.length yWR1) := BWR.at rfl
  have rbWR2 : w9.cell? ⟨bWR, 2, none⟩ = some (.int .i64 R.f2.f0) := BWR.at rfl
  have rbWR3 : w9.cell? ⟨bWR, 3, none⟩ = some (.int .i64 R.f2.f1) := BWR.at rfl
  have rbWR4 : w9.cell? ⟨bWR, 4, none⟩ = some (.int .i64 R.f2.f2) := BWR.at rfl
  go_wp2_with fail
  go_at_call 24
  refine Calls.mono (geq_Resource R (Owns.lies rGR1 urGR1) (Owns.lies rWR1 urWR1) (by omega) (by omega)) ?_
  rintro e w10 ⟨rfl, hb10⟩
  have hs10 : w9.heap.size ≤ w10.heap.size := hb10.size
  have fL := fL.below hb10
  have kA := kA.below hb10
  have rWR1 := Owns.below rWR1 hb10
  have rWQ := Owns.below rWQ hb10
  have rGR1 := Owns.below rGR1 hb10
  have rGQ := Owns.below rGQ hb10
  have BWR := BWR.below hb10
  have BGR := BGR.below hb10
  have hB10 := hB9.trans (hb10.mono hB9.size)
  clear hb10
  go_wp2_with fail
  go_at_call 33
  refine Calls.mono (geq_AddressS (Owns.lies rGQ urGQ) (Owns.lies rWQ urWQ) (by omega) (by omega)) ?_
  rintro e w11 ⟨rfl, hb11⟩
  have hs11 : w10.heap.size ≤ w11.heap.size := hb11.size
  have fL := fL.below hb11
  have kA := kA.below hb11
  have rWR1 := Owns.below rWR1 hb11
  have rWQ := Owns.below rWQ hb11
  have rGR1 := Owns.below rGR1 hb11
  have rGQ := Owns.below rGQ hb11
  have BWR := BWR.below hb11
  have BGR := BGR.below hb11
  have hB11 := hB10.trans (hb11.mono hB10.size)
  clear hb11
  obtain ⟨M1, hM1⟩ : ∃ y : Nat, 1 + ct (ints R.f1) = y := ⟨_, rfl⟩
  have zM1 : M1 ≤ 70000000 := by have := ctb_ints R.f1; omega
  have hM := gmark_Resource R 1 rGR1  (fun hS => by have q := urGR1 _ hS; omega) (by omega)
  rw [hM1] at hM
  have rbGR0 : w11.cell? ⟨bGR, 0, none⟩ = some (.int .i64 R.f0) := BGR.at rfl
  have rbGR1 : w11.cell? ⟨bGR, 1, none⟩ = some (.slice xGR1 R.f1.length yGR1) := BGR.at rfl
  have rbGR2 : w11.cell? ⟨bGR, 2, none⟩ = some (.int .i64 R.f2.f0) := BGR.at rfl
  have rbGR3 : w11.cell? ⟨bGR, 3, none⟩ = some (.int .i64 R.f2.f1) := BGR.at rfl
  have rbGR4 : w11.cell? ⟨bGR, 4, none⟩ = some (.int .i64 R.f2.f2) := BGR.at rfl
  go_wp2_with fail
  go_at_call 26
  refine Calls.mono (hM) ?_
  rintro e w12 ⟨rfl, nrGR1, ht12⟩
  clear hM
  have hs12 := ht12.size
  have fL := fL.turn ht12 (fun t hS h1 h2 => by have q := urGR1 t hS; omega)
  have kA := (ht12.block _ kA.lt (fun hS => (by have q := urGR1 _ hS; omega))).trans kA
  replace kA : Blk 45 (w.heap.size) [Value.int .i64 PA.f0, .int .i64 PA.f1, .int .i64 PA.f2] w12 := kA
  have BWR := (ht12.block _ BWR.lt (fun hS => by (have q := urGR1 _ hS; omega))).trans BWR
  replace BWR : Blk 31 bWR [Value.int .i64 R.f0, .slice xWR1 R.f1.length yWR1, .int .i64 R.f2.f0, .int .i64 R.f2.f1, .int .i64 R.f2.f2] w12 := BWR
  have BGR := (ht12.block _ BGR.lt (fun hS => by (exact absurd hS nbGR1_R))).trans BGR
  replace BGR : Blk 31 bGR [Value.int .i64 R.f0, .slice xGR1 R.f1.length yGR1, .int .i64 R.f2.f0, .int .i64 R.f2.f1, .int .i64 R.f2.f2] w12 := BGR
  have rWR1 := Owns.turn rWR1 ht12 (fun t hX hS => (by have q := urGR1 t hS; have p := urWR1 t hX; omega))
  have rWQ := Owns.turn rWQ ht12 (fun t hX hS => (by have q := urGR1 t hS; have p := urWQ t hX; omega))
  have rGQ := Owns.turn rGQ ht12 (fun t hX hS => udGR1_Q t hS hX)
  have hB12 := hB11.trans (ht12.below (fun t hS => by have q := urGR1 t hS; omega) hB11.size)
  clear ht12
  have rGR1 := nrGR1
  clear nrGR1
  obtain ⟨M2, hM2⟩ : ∃ y : Nat, M1 + ct (dAddress Q) = y := ⟨_, rfl⟩
  have zM2 : M2 ≤ 140000000 := by have := ctb_AddressS Q; omega
  have hM := gmark_AddressS M1 rGQ (by omega)
  rw [hM2] at hM
  go_wp2_with fail
  go_at_call 34
  refine Calls.mono (hM) ?_
  rintro e w13 ⟨rfl, nrGQ, ht13⟩
  clear hM
  have hs13 := ht13.size
  have fL := fL.turn ht13 (fun t hS h1 h2 => by have q := urGQ t hS; omega)
  have kA := (ht13.block _ kA.lt (fun hS => (by have q := urGQ _ hS; omega))).trans kA
  replace kA : Blk 45 (w.heap.size) [Value.int .i64 PA.f0, .int .i64 PA.f1, .int .i64 PA.f2] w13 := kA
  have BWR := (ht13.block _ BWR.lt (fun hS => by (have q := urGQ _ hS; omega))).trans BWR
  replace BWR : Blk 31 bWR [Value.int .i64 R.f0, .slice xWR1 R.f1.length yWR1, .int .i64 R.f2.f0, .int .i64 R.f2.f1, .int .i64 R.f2.f2] w13 := BWR
  have BGR := (ht13.block _ BGR.lt (fun hS => by (exact absurd hS nbGQ_R))).trans BGR
  replace BGR : Blk 31 bGR [Value.int .i64 R.f0, .slice xGR1 R.f1.length yGR1, .int .i64 R.f2.f0, .int .i64 R.f2.f1, .int .i64 R.f2.f2] w13 := BGR
  have rWR1 := Owns.turn rWR1 ht13 (fun t hX hS => (by have q := urGQ t hS; have p := urWR1 t hX; omega))
  have rWQ := Owns.turn rWQ ht13 (fun t hX hS => (by have q := urGQ t hS; have p := urWQ t hX; omega))
  have rGR1 := Owns.turn rGR1 ht13 (fun t hX hS => udGR1_Q t hX hS)
  have hB13 := hB12.trans (ht13.below (fun t hS => by have q := urGQ t hS; omega) hB12.size)
  clear ht13
  have rGQ := nrGQ
  clear nrGQ
  have hM := gheld_Resource R 1 (Owns.lies rGR1 urGR1) (by omega) (by omega)
  rw [hM1] at hM
  have dM : decide ((M1 : Int) < 0) = false := by first | (simp; done) | (simp; omega)
  have rbGR0 : w13.cell? ⟨bGR, 0, none⟩ = some (.int .i64 R.f0) := BGR.at rfl
  have rbGR1 : w13.cell? ⟨bGR, 1, none⟩ = some (.slice xGR1 R.f1.length yGR1) := BGR.at rfl
  have rbGR2 : w13.cell? ⟨bGR, 2, none⟩ = some (.int .i64 R.f2.f0) := BGR.at rfl
  have rbGR3 : w13.cell? ⟨bGR, 3, none⟩ = some (.int .i64 R.f2.f1) := BGR.at rfl
  have rbGR4 : w13.cell? ⟨bGR, 4, none⟩ = some (.int .i64 R.f2.f2) := BGR.at rfl
  go_wp2_with fail
  go_at_call 27
  refine Calls.mono (hM) ?_
  rintro e w14 ⟨rfl, hb14⟩
  have hs14 : w13.heap.size ≤ w14.heap.size := hb14.size
  have fL := fL.below hb14
  have kA := kA.below hb14
  have rWR1 := Owns.below rWR1 hb14
  have rWQ := Owns.below rWQ hb14
  have rGR1 := Owns.below rGR1 hb14
  have rGQ := Owns.below rGQ hb14
  have BWR := BWR.below hb14
  have BGR := BGR.below hb14
  have hB14 := hB13.trans (hb14.mono hB13.size)
  clear hb14
  clear hM
  have hM := gheld_AddressS M1 (Owns.lies rGQ urGQ) (by omega)
  rw [hM2] at hM
  have dM : decide ((M2 : Int) < 0) = false := by first | (simp; done) | (simp; omega)
  go_wp2_with fail
  go_at_call 35
  refine Calls.mono (hM) ?_
  rintro e w15 ⟨rfl, m15, hw15⟩
  have hb15 : Below w14.heap.size w14 w15 := by rw [hw15]; exact gbelow_drewN (Below.refl _ _) _
  clear hw15
  have hs15 : w14.heap.size ≤ w15.heap.size := hb15.size
  have fL := fL.below hb15
  have kA := kA.below hb15
  have rWR1 := Owns.below rWR1 hb15
  have rWQ := Owns.below rWQ hb15
  have rGR1 := Owns.below rGR1 hb15
  have rGQ := Owns.below rGQ hb15
  have BWR := BWR.below hb15
  have BGR := BGR.below hb15
  have hB15 := hB14.trans (hb15.mono hB14.size)
  clear hb15
  clear hM
  go_upto_region 28 with fail
  go_cut [16, 17] (fun s0 s1 wx => ∃ (V : World) (bR : Nat) (xR1 : Option Addr) (yR1 : Nat) (SR1 : Nat → Prop) (xQ : Option Addr) (yQ : Nat) (SQ : Nat → Prop), V = wx ∧ s0 = .pointer (some ⟨bR, 0, none⟩) ∧ Blk 31 bR [Value.int .i64 R.f0, .slice xR1 R.f1.length yR1, .int .i64 R.f2.f0, .int .i64 R.f2.f1, .int .i64 R.f2.f2] V ∧ (w.heap.size + 1 ≤ bR) ∧ bR < V.heap.size ∧ (w15.heap.size ≤ bR) ∧ s1 = .slice xQ Q.length yQ ∧ Owns V (ints R.f1) (.slice xR1 R.f1.length yR1) SR1 ∧ Owns V (dAddress Q) (.slice xQ Q.length yQ) SQ ∧ (∀ t, SR1 t → w15.heap.size ≤ t ∧ t < V.heap.size) ∧ (∀ t, SQ t → w15.heap.size ≤ t ∧ t < V.heap.size) ∧ (∀ t, SR1 t → ¬ SQ t) ∧ ¬ SR1 bR ∧ ¬ SQ bR ∧ Below w15.heap.size w15 V)
  case first =>
    have hq0 : w.heap.size ≤ w15.heap.size := hB15.size
    have hW0 : Below w15.heap.size w15 w15 := Below.refl _ _
    have ee0 : Below w15.heap.size w15 w15 := Below.refl _ _
    have ed0 : Below w15.heap.size w15 w15.drew := (Below.refl _ _).drew
    have ea0 : Below w15.heap.size w15 (w15.alloc (.cells #[Value.int .i64 0, .slice none 0 0, .int .i64 0, .int .i64 0, .int .i64 0] 31)).drew := ((Below.refl _ _).alloc (Nat.le_refl _) _).drew
    have s3 : w15.drew.cell? ⟨w.heap.size, 0, none⟩ = some (.int .i64 PA.f0) ∧ w15.drew.cell? ⟨w.heap.size, 1, none⟩ = some (.int .i64 PA.f1) ∧ w15.drew.cell? ⟨w.heap.size, 2, none⟩ = some (.int .i64 PA.f2) := ⟨(Blk.drew kA).at rfl, (Blk.drew kA).at rfl, (Blk.drew kA).at rfl⟩
    have t3 : (w15.alloc (.cells #[Value.int .i64 0, .slice none 0 0, .int .i64 0, .int .i64 0, .int .i64 0] 31)).drew.cell? ⟨w.heap.size, 0, none⟩ = some (.int .i64 PA.f0) ∧ (w15.alloc (.cells #[Value.int .i64 0, .slice none 0 0, .int .i64 0, .int .i64 0, .int .i64 0] 31)).drew.cell? ⟨w.heap.size, 1, none⟩ = some (.int .i64 PA.f1) ∧ (w15.alloc (.cells #[Value.int .i64 0, .slice none 0 0, .int .i64 0, .int .i64 0, .int .i64 0] 31)).drew.cell? ⟨w.heap.size, 2, none⟩ = some (.int .i64 PA.f2) := ⟨(Blk.drew (Blk.alloc kA _)).at rfl, (Blk.drew (Blk.alloc kA _)).at rfl, (Blk.drew (Blk.alloc kA _)).at rfl⟩
    go_wp2_with fail
    go_region_held3 (fun w' => w'.cell? ⟨w.heap.size, 0, none⟩ = some (.int .i64 PA.f0) ∧ w'.cell? ⟨w.heap.size, 1, none⟩ = some (.int .i64 PA.f1) ∧ w'.cell? ⟨w.heap.size, 2, none⟩ = some (.int .i64 PA.f2))
      (first | (with_reducible exact s3) | (with_reducible exact t3) | (with_reducible exact t4) | (with_reducible exact v3) | go_keep)
      (first
      | (go_at_call 19; refine Calls.mono (gto_VersionS (lo := 0) (hi := w.heap.size) (fL.below (w := w15) (by first | (with_reducible exact ee0) | (with_reducible exact ed0) | (with_reducible exact ea0))) (Nat.le_trans hq0 (Below.size (B := w15.heap.size) (w := w15) (by first | (with_reducible exact ee0) | (with_reducible exact ed0) | (with_reducible exact ea0)))) (by omega)) ?_; rintro e u1 ⟨v1, rfl, ho, hb⟩; have hx1 := hb; have hv1 : Below w15.heap.size w15 u1 := Below.trans (show Below w15.heap.size w15 _ from (by first | (with_reducible exact ee0) | (with_reducible exact ed0) | (with_reducible exact ea0))) (hb.mono (Below.size (B := w15.heap.size) (w := w15) (by first | (with_reducible exact ee0) | (with_reducible exact ed0) | (with_reducible exact ea0)))); have fL := fL.below hv1; have kA := kA.below hv1; obtain ⟨XL, YL, rfl, _⟩ : ∃ a c, v1 = .slice a lL.length c ∧ True := (by obtain ⟨a, c, q, _⟩ := ho; exact ⟨a, c, q, trivial⟩); have qL := Owns.lies (lo := 0) (hi := u1.heap.size) ho (fun t h => ⟨Nat.zero_le _, h.2⟩); clear ho; have hq1 := Nat.le_trans hq0 hv1.size; have hz1 := hv1.size; have ee1 : Below u1.heap.size u1 u1 := Below.refl _ _; have ed1 := ee1; have ea1 : Below u1.heap.size u1 (u1.alloc (.cells #[Value.int .i64 0, .slice none 0 0, .int .i64 0, .int .i64 0, .int .i64 0] 31)) := (Below.refl _ _).alloc (Nat.le_refl _) _; have hW1 := hW0.trans (hv1.mono hW0.size); have s3 : u1.cell? ⟨w.heap.size, 0, none⟩ = some (.int .i64 PA.f0) ∧ u1.cell? ⟨w.heap.size, 1, none⟩ = some (.int .i64 PA.f1) ∧ u1.cell? ⟨w.heap.size, 2, none⟩ = some (.int .i64 PA.f2) := ⟨(kA).at rfl, (kA).at rfl, (kA).at rfl⟩; clear hb; have t3 : (u1.alloc (.cells #[Value.int .i64 0, .slice none 0 0, .int .i64 0, .int .i64 0, .int .i64 0] 31)).cell? ⟨w.heap.size, 0, none⟩ = some (.int .i64 PA.f0) ∧ (u1.alloc (.cells #[Value.int .i64 0, .slice none 0 0, .int .i64 0, .int .i64 0, .int .i64 0] 31)).cell? ⟨w.heap.size, 1, none⟩ = some (.int .i64 PA.f1) ∧ (u1.alloc (.cells #[Value.int .i64 0, .slice none 0 0, .int .i64 0, .int .i64 0, .int .i64 0] 31)).cell? ⟨w.heap.size, 2, none⟩ = some (.int .i64 PA.f2) := ⟨(Blk.alloc kA _).at rfl, (Blk.alloc kA _).at rfl, (Blk.alloc kA _).at rfl⟩)
      | (go_at_call 23; refine Calls.mono (gto_Address PA) ?_; rintro e u2 ⟨rfl, hb⟩; have hx2 := hb; have hv2 : Below u1.heap.size u1 u2 := Below.trans (show Below u1.heap.size u1 _ from (by first | (with_reducible exact ee1) | (with_reducible exact ed1) | (with_reducible exact ea1))) (hb.mono (Below.size (B := u1.heap.size) (w := u1) (by first | (with_reducible exact ee1) | (with_reducible exact ed1) | (with_reducible exact ea1)))); have qL := Lies.below qL hv2; have fL := fL.below hv2; have kA := kA.below hv2; have hq2 := Nat.le_trans hq1 hv2.size; have hz2 := hv2.size; have ee2 : Below u2.heap.size u2 u2 := Below.refl _ _; have ed2 := ee2; have ea2 : Below u2.heap.size u2 (u2.alloc (.cells #[Value.int .i64 0, .slice none 0 0, .int .i64 0, .int .i64 0, .int .i64 0] 31)) := (Below.refl _ _).alloc (Nat.le_refl _) _; have hW2 := hW1.trans (hv2.mono hW1.size); have s3 : u2.cell? ⟨w.heap.size, 0, none⟩ = some (.int .i64 PA.f0) ∧ u2.cell? ⟨w.heap.size, 1, none⟩ = some (.int .i64 PA.f1) ∧ u2.cell? ⟨w.heap.size, 2, none⟩ = some (.int .i64 PA.f2) := ⟨(kA).at rfl, (kA).at rfl, (kA).at rfl⟩; clear hb; have t3 : (u2.alloc (.cells #[Value.int .i64 0, .slice none 0 0, .int .i64 0, .int .i64 0, .int .i64 0] 31)).cell? ⟨w.heap.size, 0, none⟩ = some (.int .i64 PA.f0) ∧ (u2.alloc (.cells #[Value.int .i64 0, .slice none 0 0, .int .i64 0, .int .i64 0, .int .i64 0] 31)).cell? ⟨w.heap.size, 1, none⟩ = some (.int .i64 PA.f1) ∧ (u2.alloc (.cells #[Value.int .i64 0, .slice none 0 0, .int .i64 0, .int .i64 0, .int .i64 0] 31)).cell? ⟨w.heap.size, 2, none⟩ = some (.int .i64 PA.f2) := ⟨(Blk.alloc kA _).at rfl, (Blk.alloc kA _).at rfl, (Blk.alloc kA _).at rfl⟩)
      | (go_at_call 16; refine Calls.mono (hI _ _ _ _ _ (Lies.below (w := u2) qL (by first | (with_reducible exact ee2) | (with_reducible exact ed2) | (with_reducible exact ea2))) (Nat.le_trans (by omega) (Below.size (B := u2.heap.size) (w := u2) (by first | (with_reducible exact ee2) | (with_reducible exact ed2) | (with_reducible exact ea2))))) ?_; rintro e u3 ⟨xR1, yR1, SR1, xQ, yQ, SQ, rfl, roR1, roQ, suR1, suQ, diR1_Q, hb⟩; have hx3 := hb; have hv3 : Below u2.heap.size u2 u3 := Below.trans (show Below u2.heap.size u2 _ from (by first | (with_reducible exact ee2) | (with_reducible exact ed2) | (with_reducible exact ea2))) (hb.mono (Below.size (B := u2.heap.size) (w := u2) (by first | (with_reducible exact ee2) | (with_reducible exact ed2) | (with_reducible exact ea2)))); have qL := Lies.below qL hv3; have fL := fL.below hv3; have kA := kA.below hv3; have szR1 := hb.size; have szQ := hb.size; have hq3 := Nat.le_trans hq2 hv3.size; have hz3 := hv3.size; have ee3 : Below u3.heap.size u3 u3 := Below.refl _ _; have ed3 := ee3; have ea3 : Below u3.heap.size u3 (u3.alloc (.cells #[Value.int .i64 0, .slice none 0 0, .int .i64 0, .int .i64 0, .int .i64 0] 31)) := (Below.refl _ _).alloc (Nat.le_refl _) _; have hW3 := hW2.trans (hv3.mono hW2.size); have s3 : u3.cell? ⟨w.heap.size, 0, none⟩ = some (.int .i64 PA.f0) ∧ u3.cell? ⟨w.heap.size, 1, none⟩ = some (.int .i64 PA.f1) ∧ u3.cell? ⟨w.heap.size, 2, none⟩ = some (.int .i64 PA.f2) := ⟨(kA).at rfl, (kA).at rfl, (kA).at rfl⟩; clear hb; have t4 : (u3.alloc (.cells #[Value.int .i64 R.f0, .slice xR1 R.f1.length yR1, .int .i64 R.f2.f0, .int .i64 R.f2.f1, .int .i64 R.f2.f2] 31)).cell? ⟨w.heap.size, 0, none⟩ = some (.int .i64 PA.f0) ∧ (u3.alloc (.cells #[Value.int .i64 R.f0, .slice xR1 R.f1.length yR1, .int .i64 R.f2.f0, .int .i64 R.f2.f1, .int .i64 R.f2.f2] 31)).cell? ⟨w.heap.size, 1, none⟩ = some (.int .i64 PA.f1) ∧ (u3.alloc (.cells #[Value.int .i64 R.f0, .slice xR1 R.f1.length yR1, .int .i64 R.f2.f0, .int .i64 R.f2.f1, .int .i64 R.f2.f2] 31)).cell? ⟨w.heap.size, 2, none⟩ = some (.int .i64 PA.f2) := ⟨(Blk.alloc kA _).at rfl, (Blk.alloc kA _).at rfl, (Blk.alloc kA _).at rfl⟩; (first | ((with_reducible have qb := ((((Blk.drew (Blk.new 31 [Value.int .i64 0, .slice none 0 0, .int .i64 0, .int .i64 0, .int .i64 0] w15)).below hx1).below hx2).below hx3)); (with_reducible have lb := Blk.lt (((Blk.drew (Blk.new 31 [Value.int .i64 0, .slice none 0 0, .int .i64 0, .int .i64 0, .int .i64 0] w15)).below hx1).below hx2)); (try simp only [gsize_alloc] at lb); (try simp only [gsize_drew] at lb); have o0 := qb.at (x := 0) rfl; have o'0 := qb.free 0; have o1 := qb.at (x := 1) rfl; have o'1 := qb.free 1; have o2 := qb.at (x := 2) rfl; have o'2 := qb.free 2; have o3 := qb.at (x := 3) rfl; have o'3 := qb.free 3; have o4 := qb.at (x := 4) rfl; have o'4 := qb.free 4; have KA := (((((kA.other (a := ⟨w15.heap.size, 0, none⟩) (.int .i64 R.f0) (by dsimp only; omega)).other (a := ⟨w15.heap.size, 1, none⟩) (.slice xR1 R.f1.length yR1) (by dsimp only; omega)).other (a := ⟨w15.heap.size, 2, none⟩) (.int .i64 R.f2.f0) (by dsimp only; omega)).other (a := ⟨w15.heap.size, 3, none⟩) (.int .i64 R.f2.f1) (by dsimp only; omega)).other (a := ⟨w15.heap.size, 4, none⟩) (.int .i64 R.f2.f2) (by dsimp only; omega)); have v3 : (((((u3.setCell ⟨w15.heap.size, 0, none⟩ (.int .i64 R.f0)).setCell ⟨w15.heap.size, 1, none⟩ (.slice xR1 R.f1.length yR1)).setCell ⟨w15.heap.size, 2, none⟩ (.int .i64 R.f2.f0)).setCell ⟨w15.heap.size, 3, none⟩ (.int .i64 R.f2.f1)).setCell ⟨w15.heap.size, 4, none⟩ (.int .i64 R.f2.f2)).cell? ⟨w.heap.size, 0, none⟩ = some (.int .i64 PA.f0) ∧ (((((u3.setCell ⟨w15.heap.size, 0, none⟩ (.int .i64 R.f0)).setCell ⟨w15.heap.size, 1, none⟩ (.slice xR1 R.f1.length yR1)).setCell ⟨w15.heap.size, 2, none⟩ (.int .i64 R.f2.f0)).setCell ⟨w15.heap.size, 3, none⟩ (.int .i64 R.f2.f1)).setCell ⟨w15.heap.size, 4, none⟩ (.int .i64 R.f2.f2)).cell? ⟨w.heap.size, 1, none⟩ = some (.int .i64 PA.f1) ∧ (((((u3.setCell ⟨w15.heap.size, 0, none⟩ (.int .i64 R.f0)).setCell ⟨w15.heap.size, 1, none⟩ (.slice xR1 R.f1.length yR1)).setCell ⟨w15.heap.size, 2, none⟩ (.int .i64 R.f2.f0)).setCell ⟨w15.heap.size, 3, none⟩ (.int .i64 R.f2.f1)).setCell ⟨w15.heap.size, 4, none⟩ (.int .i64 R.f2.f2)).cell? ⟨w.heap.size, 2, none⟩ = some (.int .i64 PA.f2) := ⟨KA.at rfl, KA.at rfl, KA.at rfl⟩) | ((with_reducible have qb := (((Blk.new 31 [Value.int .i64 0, .slice none 0 0, .int .i64 0, .int .i64 0, .int .i64 0] u1).below hx2).below hx3)); (with_reducible have lb := Blk.lt ((Blk.new 31 [Value.int .i64 0, .slice none 0 0, .int .i64 0, .int .i64 0, .int .i64 0] u1).below hx2)); (try simp only [gsize_alloc] at lb); (try simp only [gsize_drew] at lb); have o0 := qb.at (x := 0) rfl; have o'0 := qb.free 0; have o1 := qb.at (x := 1) rfl; have o'1 := qb.free 1; have o2 := qb.at (x := 2) rfl; have o'2 := qb.free 2; have o3 := qb.at (x := 3) rfl; have o'3 := qb.free 3; have o4 := qb.at (x := 4) rfl; have o'4 := qb.free 4; have KA := (((((kA.other (a := ⟨u1.heap.size, 0, none⟩) (.int .i64 R.f0) (by dsimp only; omega)).other (a := ⟨u1.heap.size, 1, none⟩) (.slice xR1 R.f1.length yR1) (by dsimp only; omega)).other (a := ⟨u1.heap.size, 2, none⟩) (.int .i64 R.f2.f0) (by dsimp only; omega)).other (a := ⟨u1.heap.size, 3, none⟩) (.int .i64 R.f2.f1) (by dsimp only; omega)).other (a := ⟨u1.heap.size, 4, none⟩) (.int .i64 R.f2.f2) (by dsimp only; omega)); have v3 : (((((u3.setCell ⟨u1.heap.size, 0, none⟩ (.int .i64 R.f0)).setCell ⟨u1.heap.size, 1, none⟩ (.slice xR1 R.f1.length yR1)).setCell ⟨u1.heap.size, 2, none⟩ (.int .i64 R.f2.f0)).setCell ⟨u1.heap.size, 3, none⟩ (.int .i64 R.f2.f1)).setCell ⟨u1.heap.size, 4, none⟩ (.int .i64 R.f2.f2)).cell? ⟨w.heap.size, 0, none⟩ = some (.int .i64 PA.f0) ∧ (((((u3.setCell ⟨u1.heap.size, 0, none⟩ (.int .i64 R.f0)).setCell ⟨u1.heap.size, 1, none⟩ (.slice xR1 R.f1.length yR1)).setCell ⟨u1.heap.size, 2, none⟩ (.int .i64 R.f2.f0)).setCell ⟨u1.heap.size, 3, none⟩ (.int .i64 R.f2.f1)).setCell ⟨u1.heap.size, 4, none⟩ (.int .i64 R.f2.f2)).cell? ⟨w.heap.size, 1, none⟩ = some (.int .i64 PA.f1) ∧ (((((u3.setCell ⟨u1.heap.size, 0, none⟩ (.int .i64 R.f0)).setCell ⟨u1.heap.size, 1, none⟩ (.slice xR1 R.f1.length yR1)).setCell ⟨u1.heap.size, 2, none⟩ (.int .i64 R.f2.f0)).setCell ⟨u1.heap.size, 3, none⟩ (.int .i64 R.f2.f1)).setCell ⟨u1.heap.size, 4, none⟩ (.int .i64 R.f2.f2)).cell? ⟨w.heap.size, 2, none⟩ = some (.int .i64 PA.f2) := ⟨KA.at rfl, KA.at rfl, KA.at rfl⟩) | ((with_reducible have qb := ((Blk.new 31 [Value.int .i64 0, .slice none 0 0, .int .i64 0, .int .i64 0, .int .i64 0] u2).below hx3)); (with_reducible have lb := Blk.lt (Blk.new 31 [Value.int .i64 0, .slice none 0 0, .int .i64 0, .int .i64 0, .int .i64 0] u2)); (try simp only [gsize_alloc] at lb); (try simp only [gsize_drew] at lb); have o0 := qb.at (x := 0) rfl; have o'0 := qb.free 0; have o1 := qb.at (x := 1) rfl; have o'1 := qb.free 1; have o2 := qb.at (x := 2) rfl; have o'2 := qb.free 2; have o3 := qb.at (x := 3) rfl; have o'3 := qb.free 3; have o4 := qb.at (x := 4) rfl; have o'4 := qb.free 4; have KA := (((((kA.other (a := ⟨u2.heap.size, 0, none⟩) (.int .i64 R.f0) (by dsimp only; omega)).other (a := ⟨u2.heap.size, 1, none⟩) (.slice xR1 R.f1.length yR1) (by dsimp only; omega)).other (a := ⟨u2.heap.size, 2, none⟩) (.int .i64 R.f2.f0) (by dsimp only; omega)).other (a := ⟨u2.heap.size, 3, none⟩) (.int .i64 R.f2.f1) (by dsimp only; omega)).other (a := ⟨u2.heap.size, 4, none⟩) (.int .i64 R.f2.f2) (by dsimp only; omega)); have v3 : (((((u3.setCell ⟨u2.heap.size, 0, none⟩ (.int .i64 R.f0)).setCell ⟨u2.heap.size, 1, none⟩ (.slice xR1 R.f1.length yR1)).setCell ⟨u2.heap.size, 2, none⟩ (.int .i64 R.f2.f0)).setCell ⟨u2.heap.size, 3, none⟩ (.int .i64 R.f2.f1)).setCell ⟨u2.heap.size, 4, none⟩ (.int .i64 R.f2.f2)).cell? ⟨w.heap.size, 0, none⟩ = some (.int .i64 PA.f0) ∧ (((((u3.setCell ⟨u2.heap.size, 0, none⟩ (.int .i64 R.f0)).setCell ⟨u2.heap.size, 1, none⟩ (.slice xR1 R.f1.length yR1)).setCell ⟨u2.heap.size, 2, none⟩ (.int .i64 R.f2.f0)).setCell ⟨u2.heap.size, 3, none⟩ (.int .i64 R.f2.f1)).setCell ⟨u2.heap.size, 4, none⟩ (.int .i64 R.f2.f2)).cell? ⟨w.heap.size, 1, none⟩ = some (.int .i64 PA.f1) ∧ (((((u3.setCell ⟨u2.heap.size, 0, none⟩ (.int .i64 R.f0)).setCell ⟨u2.heap.size, 1, none⟩ (.slice xR1 R.f1.length yR1)).setCell ⟨u2.heap.size, 2, none⟩ (.int .i64 R.f2.f0)).setCell ⟨u2.heap.size, 3, none⟩ (.int .i64 R.f2.f1)).setCell ⟨u2.heap.size, 4, none⟩ (.int .i64 R.f2.f2)).cell? ⟨w.heap.size, 2, none⟩ = some (.int .i64 PA.f2) := ⟨KA.at rfl, KA.at rfl, KA.at rfl⟩) | skip); have t3 : (u3.alloc (.cells #[Value.int .i64 0, .slice none 0 0, .int .i64 0, .int .i64 0, .int .i64 0] 31)).cell? ⟨w.heap.size, 0, none⟩ = some (.int .i64 PA.f0) ∧ (u3.alloc (.cells #[Value.int .i64 0, .slice none 0 0, .int .i64 0, .int .i64 0, .int .i64 0] 31)).cell? ⟨w.heap.size, 1, none⟩ = some (.int .i64 PA.f1) ∧ (u3.alloc (.cells #[Value.int .i64 0, .slice none 0 0, .int .i64 0, .int .i64 0, .int .i64 0] 31)).cell? ⟨w.heap.size, 2, none⟩ = some (.int .i64 PA.f2) := ⟨(Blk.alloc kA _).at rfl, (Blk.alloc kA _).at rfl, (Blk.alloc kA _).at rfl⟩)
      )
    all_goals
      go_wp2_with fail
      go_meet
      case rel =>
        first
        | exact ⟨_, _, _, _, SR1, _, _, SQ, rfl, rfl, (((((qb.set 0 (.int .i64 R.f0)).set 1 (.slice xR1 R.f1.length yR1)).set 2 (.int .i64 R.f2.f0)).set 3 (.int .i64 R.f2.f1)).set 4 (.int .i64 R.f2.f2)), (by (try simp only [gsize_drew]); omega), (by simp only [gsize_set]; exact qb.lt), (by (try simp only [gsize_drew]); omega), rfl, (Owns.keep roR1 fun t _ hS => by have q := suR1 t hS; (try simp only [gsize_alloc] at q); (try simp only [gsize_drew] at q); (iterate 5 (refine Eq.trans (Below.heap_setCell _ _ _ _ (by dsimp only; (try simp only [gsize_drew]); omega)) ?_)); rfl), (Owns.keep roQ fun t _ hS => by have q := suQ t hS; (try simp only [gsize_alloc] at q); (try simp only [gsize_drew] at q); (iterate 5 (refine Eq.trans (Below.heap_setCell _ _ _ _ (by dsimp only; (try simp only [gsize_drew]); omega)) ?_)); rfl), (fun t hS => by have q := suR1 t hS; (try simp only [gsize_alloc] at q); (try simp only [gsize_drew] at q); (try simp only [gsize_alloc]); (try simp only [gsize_set]); omega), (fun t hS => by have q := suQ t hS; (try simp only [gsize_alloc] at q); (try simp only [gsize_drew] at q); (try simp only [gsize_alloc]); (try simp only [gsize_set]); omega), diR1_Q, (fun hS => by have q := suR1 _ hS; (try simp only [gsize_alloc] at q); (try simp only [gsize_drew] at q); omega), (fun hS => by have q := suQ _ hS; (try simp only [gsize_alloc] at q); (try simp only [gsize_drew] at q); omega), (by (iterate 5 (refine Below.setCell ?_ (by (try dsimp only); (try simp only [gsize_drew]); omega) _)); exact hW3)⟩
        | exact ⟨_, _, _, _, SR1, _, _, SQ, rfl, rfl, Blk.new _ [Value.int .i64 R.f0, .slice xR1 R.f1.length yR1, .int .i64 R.f2.f0, .int .i64 R.f2.f1, .int .i64 R.f2.f2] u3, (by omega), (by rw [gsize_alloc]; omega), (by omega), rfl, (Owns.below roR1 ((Below.refl _ _).alloc (Nat.le_refl _) _)), (Owns.below roQ ((Below.refl _ _).alloc (Nat.le_refl _) _)), (fun t hS => by have q := suR1 t hS; (try simp only [gsize_alloc] at q); (try simp only [gsize_drew] at q); (try simp only [gsize_alloc]); (try simp only [gsize_set]); omega), (fun t hS => by have q := suQ t hS; (try simp only [gsize_alloc] at q); (try simp only [gsize_drew] at q); (try simp only [gsize_alloc]); (try simp only [gsize_set]); omega), diR1_Q, (fun hS => by have q := suR1 _ hS; (try simp only [gsize_alloc] at q); (try simp only [gsize_drew] at q); omega), (fun hS => by have q := suQ _ hS; (try simp only [gsize_alloc] at q); (try simp only [gsize_drew] at q); omega), (Below.alloc hW3 hW3.size _)⟩
  case rest =>
  obtain ⟨w16, bHR, xHR1, yHR1, SHR1, xHQ, yHQ, SHQ, rfl, rfl, BHR, lbHR, ubHR, mbHR, rfl, rHR1, rHQ, urHR1, urHQ, udHR1_Q, nbHR1_R, nbHQ_R, hb16⟩ := hcut
  have hs16 : w15.heap.size ≤ w16.heap.size := hb16.size
  have fL := fL.below hb16
  have kA := kA.below hb16
  have rWR1 := Owns.below rWR1 hb16
  have rWQ := Owns.below rWQ hb16
  have rGR1 := Owns.below rGR1 hb16
  have rGQ := Owns.below rGQ hb16
  have BWR := BWR.below hb16
  have BGR := BGR.below hb16
  have hB16 := hB15.trans (hb16.mono hB15.size)
  clear hb16
  have rbHR0 : w16.cell? ⟨bHR, 0, none⟩ = some (.int .i64 R.f0) := BHR.at rfl
  have rbHR1 : w16.cell? ⟨bHR, 1, none⟩ = some (.slice xHR1 R.f1.length yHR1) := BHR.at rfl
  have rbHR2 : w16.cell? ⟨bHR, 2, none⟩ = some (.int .i64 R.f2.f0) := BHR.at rfl
  have rbHR3 : w16.cell? ⟨bHR, 3, none⟩ = some (.int .i64 R.f2.f1) := BHR.at rfl
  have rbHR4 : w16.cell? ⟨bHR, 4, none⟩ = some (.int .i64 R.f2.f2) := BHR.at rfl
  have rbWR0 : w16.cell? ⟨bWR, 0, none⟩ = some (.int .i64 R.f0) := BWR.at rfl
  have rbWR1 : w16.cell? ⟨bWR, 1, none⟩ = some (.slice xWR1 R.f1.length yWR1) := BWR.at rfl
  have rbWR2 : w16.cell? ⟨bWR, 2, none⟩ = some (.int .i64 R.f2.f0) := BWR.at rfl
  have rbWR3 : w16.cell? ⟨bWR, 3, none⟩ = some (.int .i64 R.f2.f1) := BWR.at rfl
  have rbWR4 : w16.cell? ⟨bWR, 4, none⟩ = some (.int .i64 R.f2.f2) := BWR.at rfl
  go_wp2_with fail
  go_at_call 24
  refine Calls.mono (geq_Resource R (Owns.lies rHR1 urHR1) (Owns.lies rWR1 urWR1) (by omega) (by omega)) ?_
  rintro e w17 ⟨rfl, hb17⟩
  have hs17 : w16.heap.size ≤ w17.heap.size := hb17.size
  have fL := fL.below hb17
  have kA := kA.below hb17
  have rWR1 := Owns.below rWR1 hb17
  have rWQ := Owns.below rWQ hb17
  have rGR1 := Owns.below rGR1 hb17
  have rGQ := Owns.below rGQ hb17
  have rHR1 := Owns.below rHR1 hb17
  have rHQ := Owns.below rHQ hb17
  have BWR := BWR.below hb17
  have BGR := BGR.below hb17
  have BHR := BHR.below hb17
  have hB17 := hB16.trans (hb17.mono hB16.size)
  clear hb17
  go_wp2_with fail
  go_at_call 33
  refine Calls.mono (geq_AddressS (Owns.lies rHQ urHQ) (Owns.lies rWQ urWQ) (by omega) (by omega)) ?_
  rintro e w18 ⟨rfl, hb18⟩
  have hs18 : w17.heap.size ≤ w18.heap.size := hb18.size
  have fL := fL.below hb18
  have kA := kA.below hb18
  have rWR1 := Owns.below rWR1 hb18
  have rWQ := Owns.below rWQ hb18
  have rGR1 := Owns.below rGR1 hb18
  have rGQ := Owns.below rGQ hb18
  have rHR1 := Owns.below rHR1 hb18
  have rHQ := Owns.below rHQ hb18
  have BWR := BWR.below hb18
  have BGR := BGR.below hb18
  have BHR := BHR.below hb18
  have hB18 := hB17.trans (hb18.mono hB17.size)
  clear hb18
  have hM := gheld_Resource R 1 (Owns.lies rGR1 urGR1) (by omega) (by omega)
  rw [hM1] at hM
  have dM : decide ((M1 : Int) < 0) = false := by first | (simp; done) | (simp; omega)
  have rbGR0 : w18.cell? ⟨bGR, 0, none⟩ = some (.int .i64 R.f0) := BGR.at rfl
  have rbGR1 : w18.cell? ⟨bGR, 1, none⟩ = some (.slice xGR1 R.f1.length yGR1) := BGR.at rfl
  have rbGR2 : w18.cell? ⟨bGR, 2, none⟩ = some (.int .i64 R.f2.f0) := BGR.at rfl
  have rbGR3 : w18.cell? ⟨bGR, 3, none⟩ = some (.int .i64 R.f2.f1) := BGR.at rfl
  have rbGR4 : w18.cell? ⟨bGR, 4, none⟩ = some (.int .i64 R.f2.f2) := BGR.at rfl
  go_wp2_with fail
  go_at_call 27
  refine Calls.mono (hM) ?_
  rintro e w19 ⟨rfl, hb19⟩
  have hs19 : w18.heap.size ≤ w19.heap.size := hb19.size
  have fL := fL.below hb19
  have kA := kA.below hb19
  have rWR1 := Owns.below rWR1 hb19
  have rWQ := Owns.below rWQ hb19
  have rGR1 := Owns.below rGR1 hb19
  have rGQ := Owns.below rGQ hb19
  have rHR1 := Owns.below rHR1 hb19
  have rHQ := Owns.below rHQ hb19
  have BWR := BWR.below hb19
  have BGR := BGR.below hb19
  have BHR := BHR.below hb19
  have hB19 := hB18.trans (hb19.mono hB18.size)
  clear hb19
  clear hM
  have hM := gheld_AddressS M1 (Owns.lies rGQ urGQ) (by omega)
  rw [hM2] at hM
  have dM : decide ((M2 : Int) < 0) = false := by first | (simp; done) | (simp; omega)
  go_wp2_with fail
  go_at_call 35
  refine Calls.mono (hM) ?_
  rintro e w20 ⟨rfl, m20, hw20⟩
  have hb20 : Below w19.heap.size w19 w20 := by rw [hw20]; exact gbelow_drewN (Below.refl _ _) _
  clear hw20
  have hs20 : w19.heap.size ≤ w20.heap.size := hb20.size
  have fL := fL.below hb20
  have kA := kA.below hb20
  have rWR1 := Owns.below rWR1 hb20
  have rWQ := Owns.below rWQ hb20
  have rGR1 := Owns.below rGR1 hb20
  have rGQ := Owns.below rGQ hb20
  have rHR1 := Owns.below rHR1 hb20
  have rHQ := Owns.below rHQ hb20
  have BWR := BWR.below hb20
  have BGR := BGR.below hb20
  have BHR := BHR.below hb20
  have hB20 := hB19.trans (hb20.mono hB19.size)
  clear hb20
  clear hM
  go_wp2
  go_ret
  exact ⟨rfl, hB20⟩
end Go.Proofs.Ytldpgkbemgpacaa.FnExactFollowAtW
