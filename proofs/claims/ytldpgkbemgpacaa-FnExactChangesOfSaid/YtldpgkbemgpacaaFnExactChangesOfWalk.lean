/-
  The law FnExactChangesOf returns true, and leaves what was there as it was.
  Conditions: the arguments can be read.
-/
import Derived.Test.YtldpgkbemgpacaaSiteI
import Derived.Test.YtldpgkbemgpacaaChangesS
import Derived.Deep.CutBlock
import Derived.Deep.DeepCutAuto
import Derived.Deep.RegionHeld3
namespace Go.Proofs.Ytldpgkbemgpacaa.FnExactChangesOfW
open Go Go.RowKit Go.Proofs.Ytldpgkbemgpacaa.Mem Go.Proofs.Ytldpgkbemgpacaa.Gen Go.Proofs.Ytldpgkbemgpacaa.Sites
set_option linter.unusedVariables false

set_option maxHeartbeats 4000000 in
set_option maxRecDepth 100000 in
theorem law_walk (lL : List TVersion) (aL : Option Addr) (cL : Nat) (PA : TAddress) (w : World) (fL : Lies 0 w.heap.size w (dVersion lL) (.slice aL lL.length cL)) (bA0 : (Lit.int .i64 PA.f0).wf = true) (bA1 : (Lit.int .i64 PA.f1).wf = true) (bA2 : (Lit.int .i64 PA.f2).wf = true) :
    Calls Try.prog 6 #[.slice aL lL.length cL, (Value.agg #[.int .i64 PA.f0, .int .i64 PA.f1, .int .i64 PA.f2])] w fun e w' => e = .returned (.bool true) ∧ Below w.heap.size w w' := by
  have hB0 : Below w.heap.size w (w.alloc (.cells #[Value.int .i64 PA.f0, .int .i64 PA.f1, .int .i64 PA.f2] 45)) := by repeat' (first | exact Below.refl _ _ | assumption | refine Below.setCell ?_ ?_ _ | refine Below.alloc ?_ ?_ _ | refine Gen.gbelow_drewN ?_ _ | refine Below.drew ?_ | exact Nat.le_refl _ | omega | (dsimp only; omega) | refine Gen.gle_alloc ?_ | refine Gen.gle_set ?_ | refine Gen.gle_drewN ?_ | refine Gen.gle_drew ?_)
  have hs0 : (w.alloc (.cells #[Value.int .i64 PA.f0, .int .i64 PA.f1, .int .i64 PA.f2] 45)).heap.size = w.heap.size + 1 := by simp only [gsize_alloc]
  have kA : Blk 45 (w.heap.size) [Value.int .i64 PA.f0, .int .i64 PA.f1, .int .i64 PA.f2] (w.alloc (.cells #[Value.int .i64 PA.f0, .int .i64 PA.f1, .int .i64 PA.f2] 45)) := by
    have q := Blk.new 45 [Value.int .i64 PA.f0, .int .i64 PA.f1, .int .i64 PA.f2] w
    exact q
  have fL := fL.below hB0
  go_enter Try.func6, Try.ntmps6
  go_wp2_with fail
  go_at_call 17
  refine Calls.mono (gsz_VersionS (lo := 0) (hi := w.heap.size) fL hB0.size 1048576 (by omega) (by omega)) ?_
  rintro e w1 ⟨rfl, hb1⟩
  have hs1 : (w.alloc (.cells #[Value.int .i64 PA.f0, .int .i64 PA.f1, .int .i64 PA.f2] 45)).heap.size ≤ w1.heap.size := hb1.size
  have fL := fL.below hb1
  have kA := kA.below hb1
  have hB1 := hB0.trans (hb1.mono hB0.size)
  clear hb1
  have hl1 := left_cases 1048576 (room (dVersion lL)) (by omega)
  obtain ⟨L1, hL1⟩ : ∃ L, left 1048576 (room (dVersion lL)) = L := ⟨_, rfl⟩
  rw [hL1] at hl1 ⊢
  rcases hl1 with ⟨rfl, hl1⟩ | ⟨hl1, gl1⟩
  · go_wp2
    go_ret
    exact ⟨rfl, hB1⟩
  have dl1 : decide (L1 < 0) = false := by simp; omega
  have ml1 : L1 ≤ 1048576 := by omega
  have rmL : room (dVersion lL) ≤ 1048576 := by omega
  clear hl1 hL1
  obtain ⟨R, hR⟩ : ∃ R, ticks (past lL PA) = R := ⟨_, rfl⟩
  have zR : room (ints R) ≤ 1048576 := by rw [← hR, room_ints]; exact Nat.le_trans (ticks_len _) (past_len rmL PA).1
  have hS : ∀ (W : World) (loL hiL : Nat) (aL : Option Addr) (cL : Nat), Lies loL hiL W (dVersion lL) (.slice aL lL.length cL) → hiL ≤ W.heap.size → Calls Try.prog 28 #[.slice aL lL.length cL, (Value.agg #[.int .i64 PA.f0, .int .i64 PA.f1, .int .i64 PA.f2])] W (fun e w' => ∃ (xR : Option Addr) (yR : Nat) (SR : Nat → Prop), e = .returned (.slice xR R.length yR) ∧ Owns w' (ints R) (.slice xR R.length yR) SR ∧ (∀ t, SR t → W.heap.size ≤ t ∧ t < w'.heap.size) ∧ Below W.heap.size W w') := by
    intro W loL hiL aL cL hL sL
    refine Calls.mono (changes_spec loL hiL W aL cL lL hL sL rmL PA) ?_
    rw [hR]
    rintro e w' ⟨a, d, rfl, ho, h1, h2, hb⟩
    exact ⟨a, d, Span W.heap.size w'.heap.size, rfl, Owns.of_row ho h1 h2 (fun t a b => ⟨a, b⟩), fun t h => h, hb⟩
  have hI : ∀ (W : World) (loL hiL : Nat) (aL : Option Addr) (cL : Nat), Lies loL hiL W (dVersion lL) (.slice aL lL.length cL) → hiL ≤ W.heap.size → Calls Try.prog 12 #[.slice aL lL.length cL, (Value.agg #[.int .i64 PA.f0, .int .i64 PA.f1, .int .i64 PA.f2])] W (fun e w' => ∃ (xR : Option Addr) (yR : Nat) (SR : Nat → Prop), e = .returned (.slice xR R.length yR) ∧ Owns w' (ints R) (.slice xR R.length yR) SR ∧ (∀ t, SR t → W.heap.size ≤ t ∧ t < w'.heap.size) ∧ Below W.heap.size W w') := by
    intro W loL hiL aL cL hL sL
    refine Calls.mono (changes_impl loL hiL W aL cL lL hL sL rmL PA ⟨bA0, bA1, bA2⟩) ?_
    rw [hR]
    rintro e w' ⟨a, d, rfl, ho, h1, h2, hb⟩
    exact ⟨a, d, Span W.heap.size w'.heap.size, rfl, Owns.of_row ho h1 h2 (fun t a b => ⟨a, b⟩), fun t h => h, hb⟩
  clear hR
  go_upto_region 5 with fail
  go_cut [6] (fun s0 wx => ∃ (V : World) (xR : Option Addr) (yR : Nat) (SR : Nat → Prop), V = wx ∧ s0 = .slice xR R.length yR ∧ Owns V (ints R) (.slice xR R.length yR) SR ∧ (∀ t, SR t → w1.heap.size ≤ t ∧ t < V.heap.size) ∧ Below w1.heap.size w1 V)
  case first =>
    have hq0 : w.heap.size ≤ w1.heap.size := hB1.size
    have hW0 : Below w1.heap.size w1 w1 := Below.refl _ _
    have ee0 : Below w1.heap.size w1 w1 := Below.refl _ _
    have ed0 : Below w1.heap.size w1 w1.drew := (Below.refl _ _).drew
    have ea0 := ed0
    have s3 : w1.drew.cell? ⟨w.heap.size, 0, none⟩ = some (.int .i64 PA.f0) ∧ w1.drew.cell? ⟨w.heap.size, 1, none⟩ = some (.int .i64 PA.f1) ∧ w1.drew.cell? ⟨w.heap.size, 2, none⟩ = some (.int .i64 PA.f2) := ⟨(Blk.drew kA).at rfl, (Blk.drew kA).at rfl, (Blk.drew kA).at rfl⟩
    go_wp2_with fail
    go_region_held3 (fun w' => w'.cell? ⟨w.heap.size, 0, none⟩ = some (.int .i64 PA.f0) ∧ w'.cell? ⟨w.heap.size, 1, none⟩ = some (.int .i64 PA.f1) ∧ w'.cell? ⟨w.heap.size, 2, none⟩ = some (.int .i64 PA.f2))
      (first | (with_reducible exact s3) | (with_reducible exact t3) | (with_reducible exact t4) | (with_reducible exact v3) | go_keep)
      (first
      | (go_at_call 19; refine Calls.mono (gto_VersionS (lo := 0) (hi := w.heap.size) (fL.below (w := w1) (by first | (with_reducible exact ee0) | (with_reducible exact ed0) | (with_reducible exact ea0))) (Nat.le_trans hq0 (Below.size (B := w1.heap.size) (w := w1) (by first | (with_reducible exact ee0) | (with_reducible exact ed0) | (with_reducible exact ea0)))) (by omega)) ?_; rintro e u1 ⟨v1, rfl, ho, hb⟩; have hv1 : Below w1.heap.size w1 u1 := Below.trans (show Below w1.heap.size w1 _ from (by first | (with_reducible exact ee0) | (with_reducible exact ed0) | (with_reducible exact ea0))) (hb.mono (Below.size (B := w1.heap.size) (w := w1) (by first | (with_reducible exact ee0) | (with_reducible exact ed0) | (with_reducible exact ea0)))); have fL := fL.below hv1; have kA := kA.below hv1; obtain ⟨XL, YL, rfl, _⟩ : ∃ a c, v1 = .slice a lL.length c ∧ True := (by obtain ⟨a, c, q, _⟩ := ho; exact ⟨a, c, q, trivial⟩); have qL := Owns.lies (lo := 0) (hi := u1.heap.size) ho (fun t h => ⟨Nat.zero_le _, h.2⟩); clear ho; have hq1 := Nat.le_trans hq0 hv1.size; have hz1 := hv1.size; have ee1 : Below u1.heap.size u1 u1 := Below.refl _ _; have ed1 := ee1; have ea1 := ee1; have hW1 := hW0.trans (hv1.mono hW0.size); have s3 : u1.cell? ⟨w.heap.size, 0, none⟩ = some (.int .i64 PA.f0) ∧ u1.cell? ⟨w.heap.size, 1, none⟩ = some (.int .i64 PA.f1) ∧ u1.cell? ⟨w.heap.size, 2, none⟩ = some (.int .i64 PA.f2) := ⟨(kA).at rfl, (kA).at rfl, (kA).at rfl⟩; clear hb)
      | (go_at_call 23; refine Calls.mono (gto_Address PA) ?_; rintro e u2 ⟨rfl, hb⟩; have hv2 : Below u1.heap.size u1 u2 := Below.trans (show Below u1.heap.size u1 _ from (by first | (with_reducible exact ee1) | (with_reducible exact ed1) | (with_reducible exact ea1))) (hb.mono (Below.size (B := u1.heap.size) (w := u1) (by first | (with_reducible exact ee1) | (with_reducible exact ed1) | (with_reducible exact ea1)))); have qL := Lies.below qL hv2; have fL := fL.below hv2; have kA := kA.below hv2; have hq2 := Nat.le_trans hq1 hv2.size; have hz2 := hv2.size; have ee2 : Below u2.heap.size u2 u2 := Below.refl _ _; have ed2 := ee2; have ea2 := ee2; have hW2 := hW1.trans (hv2.mono hW1.size); have s3 : u2.cell? ⟨w.heap.size, 0, none⟩ = some (.int .i64 PA.f0) ∧ u2.cell? ⟨w.heap.size, 1, none⟩ = some (.int .i64 PA.f1) ∧ u2.cell? ⟨w.heap.size, 2, none⟩ = some (.int .i64 PA.f2) := ⟨(kA).at rfl, (kA).at rfl, (kA).at rfl⟩; clear hb)
      | (go_at_call 28; refine Calls.mono (hS _ _ _ _ _ (Lies.below (w := u2) qL (by first | (with_reducible exact ee2) | (with_reducible exact ed2) | (with_reducible exact ea2))) (Nat.le_trans (by omega) (Below.size (B := u2.heap.size) (w := u2) (by first | (with_reducible exact ee2) | (with_reducible exact ed2) | (with_reducible exact ea2))))) ?_; rintro e u3 ⟨xR, yR, SR, rfl, roR, suR, hb⟩; have hv3 : Below u2.heap.size u2 u3 := Below.trans (show Below u2.heap.size u2 _ from (by first | (with_reducible exact ee2) | (with_reducible exact ed2) | (with_reducible exact ea2))) (hb.mono (Below.size (B := u2.heap.size) (w := u2) (by first | (with_reducible exact ee2) | (with_reducible exact ed2) | (with_reducible exact ea2)))); have qL := Lies.below qL hv3; have fL := fL.below hv3; have kA := kA.below hv3; have szR := hb.size; have hq3 := Nat.le_trans hq2 hv3.size; have hz3 := hv3.size; have ee3 : Below u3.heap.size u3 u3 := Below.refl _ _; have ed3 := ee3; have ea3 := ee3; have hW3 := hW2.trans (hv3.mono hW2.size); have s3 : u3.cell? ⟨w.heap.size, 0, none⟩ = some (.int .i64 PA.f0) ∧ u3.cell? ⟨w.heap.size, 1, none⟩ = some (.int .i64 PA.f1) ∧ u3.cell? ⟨w.heap.size, 2, none⟩ = some (.int .i64 PA.f2) := ⟨(kA).at rfl, (kA).at rfl, (kA).at rfl⟩; clear hb)
      )
    all_goals
      go_wp2_with fail
      go_meet
      case rel =>
        first
        | exact ⟨_, _, _, SR, rfl, rfl, roR, (fun t hS => by have q := suR t hS; (try simp only [gsize_alloc] at q); (try simp only [gsize_drew] at q); (try simp only [gsize_alloc]); (try simp only [gsize_set]); omega), hW3⟩
        | exact ⟨_, _, _, SR, rfl, rfl, roR, (fun t hS => by have q := suR t hS; (try simp only [gsize_alloc] at q); (try simp only [gsize_drew] at q); (try simp only [gsize_alloc]); (try simp only [gsize_set]); omega), hW3⟩
  case rest =>
  obtain ⟨w2, xWR, yWR, SWR, rfl, rfl, rWR, urWR, hb2⟩ := hcut
  have hs2 : w1.heap.size ≤ w2.heap.size := hb2.size
  have fL := fL.below hb2
  have kA := kA.below hb2
  have hB2 := hB1.trans (hb2.mono hB1.size)
  clear hb2
  go_wp2_with fail
  go_at_call 19
  refine Calls.mono (gto_VersionS (lo := 0) (hi := w.heap.size) fL hB2.size (by omega)) ?_
  rintro e w3 ⟨v3, rfl, ho3, hb3⟩
  obtain ⟨xxL, yxL, rfl, _⟩ : ∃ a c, v3 = .slice a lL.length c ∧ True := by obtain ⟨a, c, q, _⟩ := ho3; exact ⟨a, c, q, trivial⟩
  have hs3 : w2.heap.size ≤ w3.heap.size := hb3.size
  have fL := fL.below hb3
  have kA := kA.below hb3
  have rWR := Owns.below rWR hb3
  have hB3 := hB2.trans (hb3.mono hB2.size)
  clear hb3
  have gxL := ho3
  clear ho3
  have ugxL : ∀ t, Span w2.heap.size w3.heap.size t → w2.heap.size ≤ t ∧ t < w3.heap.size := fun t h => h
  go_upto_region 7 with fail
  go_cut [8] (fun s0 wx => ∃ (V : World) (xR : Option Addr) (yR : Nat) (SR : Nat → Prop), V = wx ∧ s0 = .slice xR R.length yR ∧ Owns V (ints R) (.slice xR R.length yR) SR ∧ (∀ t, SR t → w3.heap.size ≤ t ∧ t < V.heap.size) ∧ Below w3.heap.size w3 V)
  case first =>
    have hq0 : w.heap.size ≤ w3.heap.size := hB3.size
    have hW0 : Below w3.heap.size w3 w3 := Below.refl _ _
    have ee0 : Below w3.heap.size w3 w3 := Below.refl _ _
    have cbA0 : w3.cell? ⟨w.heap.size, 0, none⟩ = some (.int .i64 PA.f0) := kA.at rfl
    have cbA1 : w3.cell? ⟨w.heap.size, 1, none⟩ = some (.int .i64 PA.f1) := kA.at rfl
    have cbA2 : w3.cell? ⟨w.heap.size, 2, none⟩ = some (.int .i64 PA.f2) := kA.at rfl
    go_wp2_with fail
    go_at_call 23
    refine Calls.mono (gto_Address PA) ?_
    rintro e u1 ⟨rfl, hb⟩
    have hv1 : Below w3.heap.size w3 u1 := Below.trans (show Below w3.heap.size w3 _ from ee0) (hb.mono (Below.size (B := w3.heap.size) (w := w3) ee0))
    have fL := fL.below hv1
    have kA := kA.below hv1
    have gxL := Owns.below gxL hv1
    have hq1 := Nat.le_trans hq0 hv1.size
    have hz1 := hv1.size
    have ee1 : Below u1.heap.size u1 u1 := Below.refl _ _
    have hW1 := hW0.trans (hv1.mono hW0.size)
    have s3 : u1.cell? ⟨w.heap.size, 0, none⟩ = some (.int .i64 PA.f0) ∧ u1.cell? ⟨w.heap.size, 1, none⟩ = some (.int .i64 PA.f1) ∧ u1.cell? ⟨w.heap.size, 2, none⟩ = some (.int .i64 PA.f2) := ⟨(kA).at rfl, (kA).at rfl, (kA).at rfl⟩
    clear hb
    have cbA0 : u1.cell? ⟨w.heap.size, 0, none⟩ = some (.int .i64 PA.f0) := kA.at rfl
    have cbA1 : u1.cell? ⟨w.heap.size, 1, none⟩ = some (.int .i64 PA.f1) := kA.at rfl
    have cbA2 : u1.cell? ⟨w.heap.size, 2, none⟩ = some (.int .i64 PA.f2) := kA.at rfl
    go_wp2_with fail
    go_at_call 12
    refine Calls.mono (hI _ _ _ _ _ (Lies.below (w := u1) (Owns.lies gxL (hi := u1.heap.size) (lo := 0) (fun t h => ⟨Nat.zero_le _, by have := ugxL t h; omega⟩)) ee1) (Nat.le_trans (by omega) (Below.size (B := u1.heap.size) (w := u1) ee1))) ?_
    rintro e u2 ⟨xR, yR, SR, rfl, roR, suR, hb⟩
    have hv2 : Below u1.heap.size u1 u2 := Below.trans (show Below u1.heap.size u1 _ from ee1) (hb.mono (Below.size (B := u1.heap.size) (w := u1) ee1))
    have fL := fL.below hv2
    have kA := kA.below hv2
    have gxL := Owns.below gxL hv2
    have szR := hb.size
    have hq2 := Nat.le_trans hq1 hv2.size
    have hz2 := hv2.size
    have ee2 : Below u2.heap.size u2 u2 := Below.refl _ _
    have hW2 := hW1.trans (hv2.mono hW1.size)
    have s3 : u2.cell? ⟨w.heap.size, 0, none⟩ = some (.int .i64 PA.f0) ∧ u2.cell? ⟨w.heap.size, 1, none⟩ = some (.int .i64 PA.f1) ∧ u2.cell? ⟨w.heap.size, 2, none⟩ = some (.int .i64 PA.f2) := ⟨(kA).at rfl, (kA).at rfl, (kA).at rfl⟩
    clear hb
    have cbA0 : u2.cell? ⟨w.heap.size, 0, none⟩ = some (.int .i64 PA.f0) := kA.at rfl
    have cbA1 : u2.cell? ⟨w.heap.size, 1, none⟩ = some (.int .i64 PA.f1) := kA.at rfl
    have cbA2 : u2.cell? ⟨w.heap.size, 2, none⟩ = some (.int .i64 PA.f2) := kA.at rfl
    go_wp2_with fail
    go_meet
    case rel => exact ⟨_, _, _, SR, rfl, rfl, roR, (fun t hS => by have q := suR t hS; (try simp only [gsize_alloc] at q); (try simp only [gsize_drew] at q); (try simp only [gsize_alloc]); (try simp only [gsize_set]); omega), hW2⟩
  case rest =>
  obtain ⟨w4, xGR, yGR, SGR, rfl, rfl, rGR, urGR, hb4⟩ := hcut
  have hs4 : w3.heap.size ≤ w4.heap.size := hb4.size
  have fL := fL.below hb4
  have kA := kA.below hb4
  have rWR := Owns.below rWR hb4
  have gxL := Owns.below gxL hb4
  have hB4 := hB3.trans (hb4.mono hB3.size)
  clear hb4
  go_wp2_with fail
  go_at_call 29
  refine Calls.mono (geq_IntS (Owns.lies rGR urGR) (Owns.lies rWR urWR)) ?_
  rintro e w5 ⟨rfl, hb5⟩
  have hs5 : w4.heap.size ≤ w5.heap.size := hb5.size
  have fL := fL.below hb5
  have kA := kA.below hb5
  have rWR := Owns.below rWR hb5
  have gxL := Owns.below gxL hb5
  have rGR := Owns.below rGR hb5
  have hB5 := hB4.trans (hb5.mono hB4.size)
  clear hb5
  go_wp2_with fail
  go_at_call 19
  refine Calls.mono (gto_VersionS (lo := 0) (hi := w.heap.size) fL hB5.size (by omega)) ?_
  rintro e w6 ⟨v6, rfl, ho6, hb6⟩
  obtain ⟨xyL, yyL, rfl, _⟩ : ∃ a c, v6 = .slice a lL.length c ∧ True := by obtain ⟨a, c, q, _⟩ := ho6; exact ⟨a, c, q, trivial⟩
  have hs6 : w5.heap.size ≤ w6.heap.size := hb6.size
  have fL := fL.below hb6
  have kA := kA.below hb6
  have rWR := Owns.below rWR hb6
  have gxL := Owns.below gxL hb6
  have rGR := Owns.below rGR hb6
  have hB6 := hB5.trans (hb6.mono hB5.size)
  clear hb6
  have gyL := ho6
  clear ho6
  have ugyL : ∀ t, Span w5.heap.size w6.heap.size t → w5.heap.size ≤ t ∧ t < w6.heap.size := fun t h => h
  go_wp2_with fail
  go_at_call 21
  refine Calls.mono (geq_VersionS (Owns.lies gxL ugxL) (Owns.lies gyL ugyL) (by omega) (by omega)) ?_
  rintro e w7 ⟨rfl, hb7⟩
  have hs7 : w6.heap.size ≤ w7.heap.size := hb7.size
  have fL := fL.below hb7
  have kA := kA.below hb7
  have rWR := Owns.below rWR hb7
  have gxL := Owns.below gxL hb7
  have rGR := Owns.below rGR hb7
  have gyL := Owns.below gyL hb7
  have hB7 := hB6.trans (hb7.mono hB6.size)
  clear hb7
  clear gyL ugyL
  obtain ⟨K1, hK1⟩ : ∃ y : Nat, 1 + ct (dVersion lL) = y := ⟨_, rfl⟩
  have zK1 : K1 ≤ 70000000 := by have := ctb_VersionS lL; omega
  have hM := gmark_VersionS 1 gxL (by omega)
  rw [hK1] at hM
  go_wp2_with fail
  go_at_call 25
  refine Calls.mono (hM) ?_
  rintro e w8 ⟨rfl, ho8, ht8⟩
  clear hM ho8 hK1 gxL
  have hs8 := ht8.size
  have fL := fL.turn ht8 (fun t hS h1 h2 => by have q := ugxL t hS; omega)
  have kA := (ht8.block _ kA.lt (fun hS => (by have q := ugxL _ hS; omega))).trans kA
  replace kA : Blk 45 (w.heap.size) [Value.int .i64 PA.f0, .int .i64 PA.f1, .int .i64 PA.f2] w8 := kA
  have rWR := Owns.turn rWR ht8 (fun t hX hS => (by have q := ugxL t hS; have p := urWR t hX; omega))
  have rGR := Owns.turn rGR ht8 (fun t hX hS => (by have q := ugxL t hS; have p := urGR t hX; omega))
  have hB8 := hB7.trans (ht8.below (fun t hS => by have q := ugxL t hS; omega) hB7.size)
  clear ht8
  have dK : decide ((K1 : Int) < 0) = false := by first | (simp; done) | (simp; omega)
  go_wp2_with fail
  go_at_call 29
  refine Calls.mono (geq_IntS (Owns.lies rGR urGR) (Owns.lies rWR urWR)) ?_
  rintro e w9 ⟨rfl, hb9⟩
  have hs9 : w8.heap.size ≤ w9.heap.size := hb9.size
  have fL := fL.below hb9
  have kA := kA.below hb9
  have rWR := Owns.below rWR hb9
  have rGR := Owns.below rGR hb9
  have hB9 := hB8.trans (hb9.mono hB8.size)
  clear hb9
  obtain ⟨M1, hM1⟩ : ∃ y : Nat, 1 + ct (ints R) = y := ⟨_, rfl⟩
  have zM1 : M1 ≤ 70000000 := by have := ctb_ints R; omega
  have hM := gmark_IntS 1 rGR (by omega)
  rw [hM1] at hM
  go_wp2_with fail
  go_at_call 30
  refine Calls.mono (hM) ?_
  rintro e w10 ⟨rfl, nrGR, ht10⟩
  clear hM
  have hs10 := ht10.size
  have fL := fL.turn ht10 (fun t hS h1 h2 => by have q := urGR t hS; omega)
  have kA := (ht10.block _ kA.lt (fun hS => (by have q := urGR _ hS; omega))).trans kA
  replace kA : Blk 45 (w.heap.size) [Value.int .i64 PA.f0, .int .i64 PA.f1, .int .i64 PA.f2] w10 := kA
  have rWR := Owns.turn rWR ht10 (fun t hX hS => (by have q := urGR t hS; have p := urWR t hX; omega))
  have hB10 := hB9.trans (ht10.below (fun t hS => by have q := urGR t hS; omega) hB9.size)
  clear ht10
  have rGR := nrGR
  clear nrGR
  have hM := gheld_IntS 1 (Owns.lies rGR urGR) (by omega)
  rw [hM1] at hM
  have dM : decide ((M1 : Int) < 0) = false := by first | (simp; done) | (simp; omega)
  go_wp2_with fail
  go_at_call 31
  refine Calls.mono (hM) ?_
  rintro e w11 ⟨rfl, m11, hw11⟩
  have hb11 : Below w10.heap.size w10 w11 := by rw [hw11]; exact gbelow_drewN (Below.refl _ _) _
  clear hw11
  have hs11 : w10.heap.size ≤ w11.heap.size := hb11.size
  have fL := fL.below hb11
  have kA := kA.below hb11
  have rWR := Owns.below rWR hb11
  have rGR := Owns.below rGR hb11
  have hB11 := hB10.trans (hb11.mono hB10.size)
  clear hb11
  clear hM
  go_upto_region 24 with fail
  go_cut [12] (fun s0 wx => ∃ (V : World) (xR : Option Addr) (yR : Nat) (SR : Nat → Prop), V = wx ∧ s0 = .slice xR R.length yR ∧ Owns V (ints R) (.slice xR R.length yR) SR ∧ (∀ t, SR t → w11.heap.size ≤ t ∧ t < V.heap.size) ∧ Below w11.heap.size w11 V)
  case first =>
    have hq0 : w.heap.size ≤ w11.heap.size := hB11.size
    have hW0 : Below w11.heap.size w11 w11 := Below.refl _ _
    have ee0 : Below w11.heap.size w11 w11 := Below.refl _ _
    have ed0 : Below w11.heap.size w11 w11.drew := (Below.refl _ _).drew
    have ea0 := ed0
    have s3 : w11.drew.cell? ⟨w.heap.size, 0, none⟩ = some (.int .i64 PA.f0) ∧ w11.drew.cell? ⟨w.heap.size, 1, none⟩ = some (.int .i64 PA.f1) ∧ w11.drew.cell? ⟨w.heap.size, 2, none⟩ = some (.int .i64 PA.f2) := ⟨(Blk.drew kA).at rfl, (Blk.drew kA).at rfl, (Blk.drew kA).at rfl⟩
    go_wp2_with fail
    go_region_held3 (fun w' => w'.cell? ⟨w.heap.size, 0, none⟩ = some (.int .i64 PA.f0) ∧ w'.cell? ⟨w.heap.size, 1, none⟩ = some (.int .i64 PA.f1) ∧ w'.cell? ⟨w.heap.size, 2, none⟩ = some (.int .i64 PA.f2))
      (first | (with_reducible exact s3) | (with_reducible exact t3) | (with_reducible exact t4) | (with_reducible exact v3) | go_keep)
      (first
      | (go_at_call 19; refine Calls.mono (gto_VersionS (lo := 0) (hi := w.heap.size) (fL.below (w := w11) (by first | (with_reducible exact ee0) | (with_reducible exact ed0) | (with_reducible exact ea0))) (Nat.le_trans hq0 (Below.size (B := w11.heap.size) (w := w11) (by first | (with_reducible exact ee0) | (with_reducible exact ed0) | (with_reducible exact ea0)))) (by omega)) ?_; rintro e u1 ⟨v1, rfl, ho, hb⟩; have hv1 : Below w11.heap.size w11 u1 := Below.trans (show Below w11.heap.size w11 _ from (by first | (with_reducible exact ee0) | (with_reducible exact ed0) | (with_reducible exact ea0))) (hb.mono (Below.size (B := w11.heap.size) (w := w11) (by first | (with_reducible exact ee0) | (with_reducible exact ed0) | (with_reducible exact ea0)))); have fL := fL.below hv1; have kA := kA.below hv1; obtain ⟨XL, YL, rfl, _⟩ : ∃ a c, v1 = .slice a lL.length c ∧ True := (by obtain ⟨a, c, q, _⟩ := ho; exact ⟨a, c, q, trivial⟩); have qL := Owns.lies (lo := 0) (hi := u1.heap.size) ho (fun t h => ⟨Nat.zero_le _, h.2⟩); clear ho; have hq1 := Nat.le_trans hq0 hv1.size; have hz1 := hv1.size; have ee1 : Below u1.heap.size u1 u1 := Below.refl _ _; have ed1 := ee1; have ea1 := ee1; have hW1 := hW0.trans (hv1.mono hW0.size); have s3 : u1.cell? ⟨w.heap.size, 0, none⟩ = some (.int .i64 PA.f0) ∧ u1.cell? ⟨w.heap.size, 1, none⟩ = some (.int .i64 PA.f1) ∧ u1.cell? ⟨w.heap.size, 2, none⟩ = some (.int .i64 PA.f2) := ⟨(kA).at rfl, (kA).at rfl, (kA).at rfl⟩; clear hb)
      | (go_at_call 23; refine Calls.mono (gto_Address PA) ?_; rintro e u2 ⟨rfl, hb⟩; have hv2 : Below u1.heap.size u1 u2 := Below.trans (show Below u1.heap.size u1 _ from (by first | (with_reducible exact ee1) | (with_reducible exact ed1) | (with_reducible exact ea1))) (hb.mono (Below.size (B := u1.heap.size) (w := u1) (by first | (with_reducible exact ee1) | (with_reducible exact ed1) | (with_reducible exact ea1)))); have qL := Lies.below qL hv2; have fL := fL.below hv2; have kA := kA.below hv2; have hq2 := Nat.le_trans hq1 hv2.size; have hz2 := hv2.size; have ee2 : Below u2.heap.size u2 u2 := Below.refl _ _; have ed2 := ee2; have ea2 := ee2; have hW2 := hW1.trans (hv2.mono hW1.size); have s3 : u2.cell? ⟨w.heap.size, 0, none⟩ = some (.int .i64 PA.f0) ∧ u2.cell? ⟨w.heap.size, 1, none⟩ = some (.int .i64 PA.f1) ∧ u2.cell? ⟨w.heap.size, 2, none⟩ = some (.int .i64 PA.f2) := ⟨(kA).at rfl, (kA).at rfl, (kA).at rfl⟩; clear hb)
      | (go_at_call 12; refine Calls.mono (hI _ _ _ _ _ (Lies.below (w := u2) qL (by first | (with_reducible exact ee2) | (with_reducible exact ed2) | (with_reducible exact ea2))) (Nat.le_trans (by omega) (Below.size (B := u2.heap.size) (w := u2) (by first | (with_reducible exact ee2) | (with_reducible exact ed2) | (with_reducible exact ea2))))) ?_; rintro e u3 ⟨xR, yR, SR, rfl, roR, suR, hb⟩; have hv3 : Below u2.heap.size u2 u3 := Below.trans (show Below u2.heap.size u2 _ from (by first | (with_reducible exact ee2) | (with_reducible exact ed2) | (with_reducible exact ea2))) (hb.mono (Below.size (B := u2.heap.size) (w := u2) (by first | (with_reducible exact ee2) | (with_reducible exact ed2) | (with_reducible exact ea2)))); have qL := Lies.below qL hv3; have fL := fL.below hv3; have kA := kA.below hv3; have szR := hb.size; have hq3 := Nat.le_trans hq2 hv3.size; have hz3 := hv3.size; have ee3 : Below u3.heap.size u3 u3 := Below.refl _ _; have ed3 := ee3; have ea3 := ee3; have hW3 := hW2.trans (hv3.mono hW2.size); have s3 : u3.cell? ⟨w.heap.size, 0, none⟩ = some (.int .i64 PA.f0) ∧ u3.cell? ⟨w.heap.size, 1, none⟩ = some (.int .i64 PA.f1) ∧ u3.cell? ⟨w.heap.size, 2, none⟩ = some (.int .i64 PA.f2) := ⟨(kA).at rfl, (kA).at rfl, (kA).at rfl⟩; clear hb)
      )
    all_goals
      go_wp2_with fail
      go_meet
      case rel =>
        first
        | exact ⟨_, _, _, SR, rfl, rfl, roR, (fun t hS => by have q := suR t hS; (try simp only [gsize_alloc] at q); (try simp only [gsize_drew] at q); (try simp only [gsize_alloc]); (try simp only [gsize_set]); omega), hW3⟩
        | exact ⟨_, _, _, SR, rfl, rfl, roR, (fun t hS => by have q := suR t hS; (try simp only [gsize_alloc] at q); (try simp only [gsize_drew] at q); (try simp only [gsize_alloc]); (try simp only [gsize_set]); omega), hW3⟩
  case rest =>
  obtain ⟨w12, xHR, yHR, SHR, rfl, rfl, rHR, urHR, hb12⟩ := hcut
  have hs12 : w11.heap.size ≤ w12.heap.size := hb12.size
  have fL := fL.below hb12
  have kA := kA.below hb12
  have rWR := Owns.below rWR hb12
  have rGR := Owns.below rGR hb12
  have hB12 := hB11.trans (hb12.mono hB11.size)
  clear hb12
  go_wp2_with fail
  go_at_call 29
  refine Calls.mono (geq_IntS (Owns.lies rHR urHR) (Owns.lies rWR urWR)) ?_
  rintro e w13 ⟨rfl, hb13⟩
  have hs13 : w12.heap.size ≤ w13.heap.size := hb13.size
  have fL := fL.below hb13
  have kA := kA.below hb13
  have rWR := Owns.below rWR hb13
  have rGR := Owns.below rGR hb13
  have rHR := Owns.below rHR hb13
  have hB13 := hB12.trans (hb13.mono hB12.size)
  clear hb13
  have hM := gheld_IntS 1 (Owns.lies rGR urGR) (by omega)
  rw [hM1] at hM
  have dM : decide ((M1 : Int) < 0) = false := by first | (simp; done) | (simp; omega)
  go_wp2_with fail
  go_at_call 31
  refine Calls.mono (hM) ?_
  rintro e w14 ⟨rfl, m14, hw14⟩
  have hb14 : Below w13.heap.size w13 w14 := by rw [hw14]; exact gbelow_drewN (Below.refl _ _) _
  clear hw14
  have hs14 : w13.heap.size ≤ w14.heap.size := hb14.size
  have fL := fL.below hb14
  have kA := kA.below hb14
  have rWR := Owns.below rWR hb14
  have rGR := Owns.below rGR hb14
  have rHR := Owns.below rHR hb14
  have hB14 := hB13.trans (hb14.mono hB13.size)
  clear hb14
  clear hM
  go_wp2
  go_ret
  exact ⟨rfl, hB14⟩
end Go.Proofs.Ytldpgkbemgpacaa.FnExactChangesOfW
