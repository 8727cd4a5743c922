/-
  The law FnExactScriptInts returns true, and leaves what was there as it was.
  Conditions: the arguments can be read.
-/
import Derived.Test.YtnadalpehbeopaaScriptInts
import Derived.Deep.CutBlock
import Derived.Deep.DeepCutAuto
import Derived.Deep.RegionHeld3
namespace Go.Proofs.Ytnadalpehbeopaa.FnExactScriptIntsW
open Go Go.RowKit Go.Proofs.Ytnadalpehbeopaa.Mem Go.Proofs.Ytnadalpehbeopaa.Gen Go.Proofs.Ytnadalpehbeopaa.Scripts
set_option linter.unusedVariables false

set_option maxHeartbeats 4000000 in
set_option maxRecDepth 100000 in
theorem law_walk (lL : List TOp) (aL : Option Addr) (cL : Nat) (w : World) (fL : Lies 0 w.heap.size w (dOp lL) (.slice aL lL.length cL)) :
    Calls Try.prog 7 #[.slice aL lL.length cL] w fun e w' => e = .returned (.bool true) ∧ Below w.heap.size w w' := by
  have hB0 : Below w.heap.size w w := Below.refl _ _
  have hs0 : w.heap.size ≤ w.heap.size := Nat.le_refl _
  go_enter Try.func7, Try.ntmps7
  go_wp2_with fail
  go_at_call 17
  refine Calls.mono (gsz_OpS (lo := 0) (hi := w.heap.size) fL hB0.size 1048576 (by omega) (by omega)) ?_
  rintro e w1 ⟨rfl, hb1⟩
  have hs1 : w.heap.size ≤ w1.heap.size := hb1.size
  have fL := fL.below hb1
  have hB1 := hB0.trans (hb1.mono hB0.size)
  clear hb1
  have hl1 := left_cases 1048576 (room (dOp lL)) (by omega)
  obtain ⟨L1, hL1⟩ : ∃ L, left 1048576 (room (dOp lL)) = L := ⟨_, rfl⟩
  rw [hL1] at hl1 ⊢
  rcases hl1 with ⟨rfl, hl1⟩ | ⟨hl1, gl1⟩
  · go_wp2
    go_ret
    exact ⟨rfl, hB1⟩
  have dl1 : decide (L1 < 0) = false := by simp; omega
  have ml1 : L1 ≤ 1048576 := by omega
  have rmL : room (dOp lL) ≤ 1048576 := by omega
  clear hl1 hL1
  have lL16 : lL.length ≤ 1048576 := by have h0 : room (dOp lL) = lL.length + _ := rfl; omega
  obtain ⟨R, hR⟩ : ∃ R, numsTo lL lL.length = R := ⟨_, rfl⟩
  have hRl : R.length = 4 * lL.length := by rw [← hR]; exact nums_len _ _
  have zR : room (ints R) ≤ 4194304 := by rw [room_ints]; omega
  have hS : ∀ (W : World) (loL hiL : Nat) (aL : Option Addr) (cL : Nat), Lies loL hiL W (dOp lL) (.slice aL lL.length cL) → hiL ≤ W.heap.size → Calls Try.prog 23 #[.slice aL lL.length cL] W (fun e w' => ∃ (xR : Option Addr) (yR : Nat) (SR : Nat → Prop), e = .returned (.slice xR R.length yR) ∧ Owns w' (ints R) (.slice xR R.length yR) SR ∧ (∀ t, SR t → W.heap.size ≤ t ∧ t < w'.heap.size) ∧ Below W.heap.size W w') := by
    intro W loL hiL aL cL hL sL
    refine Calls.mono (ints_spec loL hiL W aL cL lL hL sL lL16) ?_
    rw [hR]
    rintro e w' ⟨a, d, rfl, ho, h1, h2, hb⟩
    rw [← hRl] at ho h1 ⊢
    exact ⟨a, d, Span W.heap.size w'.heap.size, rfl, Owns.of_row ho h1 h2 (fun t a b => ⟨a, b⟩), fun t h => h, hb⟩
  have hI : ∀ (W : World) (loL hiL : Nat) (aL : Option Addr) (cL : Nat), Lies loL hiL W (dOp lL) (.slice aL lL.length cL) → hiL ≤ W.heap.size → Calls Try.prog 16 #[.slice aL lL.length cL] W (fun e w' => ∃ (xR : Option Addr) (yR : Nat) (SR : Nat → Prop), e = .returned (.slice xR R.length yR) ∧ Owns w' (ints R) (.slice xR R.length yR) SR ∧ (∀ t, SR t → W.heap.size ≤ t ∧ t < w'.heap.size) ∧ Below W.heap.size W w') := by
    intro W loL hiL aL cL hL sL
    refine Calls.mono (ints_impl loL hiL W aL cL lL hL sL lL16) ?_
    rw [hR]
    rintro e w' ⟨a, d, rfl, ho, h1, h2, hb⟩
    rw [← hRl] at ho h1 ⊢
    exact ⟨a, d, Span W.heap.size w'.heap.size, rfl, Owns.of_row ho h1 h2 (fun t a b => ⟨a, b⟩), fun t h => h, hb⟩
  clear hR hRl
  go_upto_region 5 with fail
  go_cut [4] (fun s0 wx => ∃ (V : World) (xR : Option Addr) (yR : Nat) (SR : Nat → Prop), V = wx ∧ s0 = .slice xR R.length yR ∧ Owns V (ints R) (.slice xR R.length yR) SR ∧ (∀ t, SR t → w1.heap.size ≤ t ∧ t < V.heap.size) ∧ Below w1.heap.size w1 V)
  case first =>
    have hq0 : w.heap.size ≤ w1.heap.size := hB1.size
    have hW0 : Below w1.heap.size w1 w1 := Below.refl _ _
    have ee0 : Below w1.heap.size w1 w1 := Below.refl _ _
    go_wp2_with fail
    go_at_call 19
    refine Calls.mono (gto_OpS (lo := 0) (hi := w.heap.size) (fL.below (w := w1) ee0) (Nat.le_trans hq0 (Below.size (B := w1.heap.size) (w := w1) ee0)) (by omega)) ?_
    rintro e u1 ⟨v1, rfl, ho, hb⟩
    have hv1 : Below w1.heap.size w1 u1 := Below.trans (show Below w1.heap.size w1 _ from ee0) (hb.mono (Below.size (B := w1.heap.size) (w := w1) ee0))
    have fL := fL.below hv1
    obtain ⟨XL, YL, rfl, _⟩ : ∃ a c, v1 = .slice a lL.length c ∧ True := (by obtain ⟨a, c, q, _⟩ := ho; exact ⟨a, c, q, trivial⟩)
    have qL := Owns.lies (lo := 0) (hi := u1.heap.size) ho (fun t h => ⟨Nat.zero_le _, h.2⟩)
    clear ho
    have hq1 := Nat.le_trans hq0 hv1.size
    have hz1 := hv1.size
    have ee1 : Below u1.heap.size u1 u1 := Below.refl _ _
    have hW1 := hW0.trans (hv1.mono hW0.size)
    clear hb
    go_wp2_with fail
    go_at_call 23
    refine Calls.mono (hS _ _ _ _ _ (Lies.below (w := u1) qL ee1) (Nat.le_trans (by omega) (Below.size (B := u1.heap.size) (w := u1) ee1))) ?_
    rintro e u2 ⟨xR, yR, SR, rfl, roR, suR, hb⟩
    have hv2 : Below u1.heap.size u1 u2 := Below.trans (show Below u1.heap.size u1 _ from ee1) (hb.mono (Below.size (B := u1.heap.size) (w := u1) ee1))
    have qL := Lies.below qL hv2
    have fL := fL.below hv2
    have szR := hb.size
    have hq2 := Nat.le_trans hq1 hv2.size
    have hz2 := hv2.size
    have ee2 : Below u2.heap.size u2 u2 := Below.refl _ _
    have hW2 := hW1.trans (hv2.mono hW1.size)
    clear hb
    go_wp2_with fail
    go_meet
    case rel => exact ⟨_, _, _, SR, rfl, rfl, roR, (fun t hS => by have q := suR t hS; (try simp only [gsize_alloc] at q); (try simp only [gsize_drew] at q); (try simp only [gsize_alloc]); (try simp only [gsize_set]); omega), hW2⟩
  case rest =>
  obtain ⟨w2, xWR, yWR, SWR, rfl, rfl, rWR, urWR, hb2⟩ := hcut
  have hs2 : w1.heap.size ≤ w2.heap.size := hb2.size
  have fL := fL.below hb2
  have hB2 := hB1.trans (hb2.mono hB1.size)
  clear hb2
  go_wp2_with fail
  go_at_call 19
  refine Calls.mono (gto_OpS (lo := 0) (hi := w.heap.size) fL hB2.size (by omega)) ?_
  rintro e w3 ⟨v3, rfl, ho3, hb3⟩
  obtain ⟨xxL, yxL, rfl, _⟩ : ∃ a c, v3 = .slice a lL.length c ∧ True := by obtain ⟨a, c, q, _⟩ := ho3; exact ⟨a, c, q, trivial⟩
  have hs3 : w2.heap.size ≤ w3.heap.size := hb3.size
  have fL := fL.below hb3
  have rWR := Owns.below rWR hb3
  have hB3 := hB2.trans (hb3.mono hB2.size)
  clear hb3
  have gxL := ho3
  clear ho3
  have ugxL : ∀ t, Span w2.heap.size w3.heap.size t → w2.heap.size ≤ t ∧ t < w3.heap.size := fun t h => h
  go_upto_region 7 with fail
  go_cut [6] (fun s0 wx => ∃ (V : World) (xR : Option Addr) (yR : Nat) (SR : Nat → Prop), V = wx ∧ s0 = .slice xR R.length yR ∧ Owns V (ints R) (.slice xR R.length yR) SR ∧ (∀ t, SR t → w3.heap.size ≤ t ∧ t < V.heap.size) ∧ Below w3.heap.size w3 V)
  case first =>
    have hq0 : w.heap.size ≤ w3.heap.size := hB3.size
    have hW0 : Below w3.heap.size w3 w3 := Below.refl _ _
    have ee0 : Below w3.heap.size w3 w3 := Below.refl _ _
    go_wp2_with fail
    go_at_call 16
    refine Calls.mono (hI _ _ _ _ _ (Lies.below (w := w3) (Owns.lies gxL (hi := w3.heap.size) (lo := 0) (fun t h => ⟨Nat.zero_le _, by have := ugxL t h; omega⟩)) ee0) (Nat.le_trans (by omega) (Below.size (B := w3.heap.size) (w := w3) ee0))) ?_
    rintro e u1 ⟨xR, yR, SR, rfl, roR, suR, hb⟩
    have hv1 : Below w3.heap.size w3 u1 := Below.trans (show Below w3.heap.size w3 _ from ee0) (hb.mono (Below.size (B := w3.heap.size) (w := w3) ee0))
    have fL := fL.below hv1
    have gxL := Owns.below gxL hv1
    have szR := hb.size
    have hq1 := Nat.le_trans hq0 hv1.size
    have hz1 := hv1.size
    have ee1 : Below u1.heap.size u1 u1 := Below.refl _ _
    have hW1 := hW0.trans (hv1.mono hW0.size)
    clear hb
    go_wp2_with fail
    go_meet
    case rel => exact ⟨_, _, _, SR, rfl, rfl, roR, (fun t hS => by have q := suR t hS; (try simp only [gsize_alloc] at q); (try simp only [gsize_drew] at q); (try simp only [gsize_alloc]); (try simp only [gsize_set]); omega), hW1⟩
  case rest =>
  obtain ⟨w4, xGR, yGR, SGR, rfl, rfl, rGR, urGR, hb4⟩ := hcut
  have hs4 : w3.heap.size ≤ w4.heap.size := hb4.size
  have fL := fL.below hb4
  have rWR := Owns.below rWR hb4
  have gxL := Owns.below gxL hb4
  have hB4 := hB3.trans (hb4.mono hB3.size)
  clear hb4
  go_wp2_with fail
  go_at_call 24
  refine Calls.mono (geq_IntS (Owns.lies rGR urGR) (Owns.lies rWR urWR)) ?_
  rintro e w5 ⟨rfl, hb5⟩
  have hs5 : w4.heap.size ≤ w5.heap.size := hb5.size
  have fL := fL.below hb5
  have rWR := Owns.below rWR hb5
  have gxL := Owns.below gxL hb5
  have rGR := Owns.below rGR hb5
  have hB5 := hB4.trans (hb5.mono hB4.size)
  clear hb5
  go_wp2_with fail
  go_at_call 19
  refine Calls.mono (gto_OpS (lo := 0) (hi := w.heap.size) fL hB5.size (by omega)) ?_
  rintro e w6 ⟨v6, rfl, ho6, hb6⟩
  obtain ⟨xyL, yyL, rfl, _⟩ : ∃ a c, v6 = .slice a lL.length c ∧ True := by obtain ⟨a, c, q, _⟩ := ho6; exact ⟨a, c, q, trivial⟩
  have hs6 : w5.heap.size ≤ w6.heap.size := hb6.size
  have fL := fL.below hb6
  have rWR := Owns.below rWR hb6
  have gxL := Owns.below gxL hb6
  have rGR := Owns.below rGR hb6
  have hB6 := hB5.trans (hb6.mono hB5.size)
  clear hb6
  have gyL := ho6
  clear ho6
  have ugyL : ∀ t, Span w5.heap.size w6.heap.size t → w5.heap.size ≤ t ∧ t < w6.heap.size := fun t h => h
  go_wp2_with fail
  go_at_call 20
  refine Calls.mono (geq_OpS (Owns.lies gxL ugxL) (Owns.lies gyL ugyL) (by omega) (by omega)) ?_
  rintro e w7 ⟨rfl, hb7⟩
  have hs7 : w6.heap.size ≤ w7.heap.size := hb7.size
  have fL := fL.below hb7
  have rWR := Owns.below rWR hb7
  have gxL := Owns.below gxL hb7
  have rGR := Owns.below rGR hb7
  have gyL := Owns.below gyL hb7
  have hB7 := hB6.trans (hb7.mono hB6.size)
  clear hb7
  clear gyL ugyL
  obtain ⟨K1, hK1⟩ : ∃ y : Nat, 1 + ct (dOp lL) = y := ⟨_, rfl⟩
  have zK1 : K1 ≤ 300000000 := by have := ctb_OpS lL; omega
  have hM := gmark_OpS 1 gxL (by omega)
  rw [hK1] at hM
  go_wp2_with fail
  go_at_call 25
  refine Calls.mono (hM) ?_
  rintro e w8 ⟨rfl, ho8, ht8⟩
  clear hM ho8 hK1 gxL
  have hs8 := ht8.size
  have fL := fL.turn ht8 (fun t hS h1 h2 => by have q := ugxL t hS; omega)
  have rWR := Owns.turn rWR ht8 (fun t hX hS => (by have q := ugxL t hS; have p := urWR t hX; omega))
  have rGR := Owns.turn rGR ht8 (fun t hX hS => (by have q := ugxL t hS; have p := urGR t hX; omega))
  have hB8 := hB7.trans (ht8.below (fun t hS => by have q := ugxL t hS; omega) hB7.size)
  clear ht8
  have dK : decide ((K1 : Int) < 0) = false := by first | (simp; done) | (simp; omega)
  go_wp2_with fail
  go_at_call 24
  refine Calls.mono (geq_IntS (Owns.lies rGR urGR) (Owns.lies rWR urWR)) ?_
  rintro e w9 ⟨rfl, hb9⟩
  have hs9 : w8.heap.size ≤ w9.heap.size := hb9.size
  have fL := fL.below hb9
  have rWR := Owns.below rWR hb9
  have rGR := Owns.below rGR hb9
  have hB9 := hB8.trans (hb9.mono hB8.size)
  clear hb9
  obtain ⟨M1, hM1⟩ : ∃ y : Nat, 1 + ct (ints R) = y := ⟨_, rfl⟩
  have zM1 : M1 ≤ 300000000 := by have := ctb_ints R; omega
  have hM := gmark_IntS 1 rGR (by omega)
  rw [hM1] at hM
  go_wp2_with fail
  go_at_call 26
  refine Calls.mono (hM) ?_
  rintro e w10 ⟨rfl, nrGR, ht10⟩
  clear hM
  have hs10 := ht10.size
  have fL := fL.turn ht10 (fun t hS h1 h2 => by have q := urGR t hS; omega)
  have rWR := Owns.turn rWR ht10 (fun t hX hS => (by have q := urGR t hS; have p := urWR t hX; omega))
  have hB10 := hB9.trans (ht10.below (fun t hS => by have q := urGR t hS; omega) hB9.size)
  clear ht10
  have rGR := nrGR
  clear nrGR
  have hM := gheld_IntS 1 (Owns.lies rGR urGR) (by omega)
  rw [hM1] at hM
  have dM : decide ((M1 : Int) < 0) = false := by first | (simp; done) | (simp; omega)
  go_wp2_with fail
  go_at_call 27
  refine Calls.mono (hM) ?_
  rintro e w11 ⟨rfl, m11, hw11⟩
  have hb11 : Below w10.heap.size w10 w11 := by rw [hw11]; exact gbelow_drewN (Below.refl _ _) _
  clear hw11
  have hs11 : w10.heap.size ≤ w11.heap.size := hb11.size
  have fL := fL.below hb11
  have rWR := Owns.below rWR hb11
  have rGR := Owns.below rGR hb11
  have hB11 := hB10.trans (hb11.mono hB10.size)
  clear hb11
  clear hM
  go_upto_region 24 with fail
  go_cut [10] (fun s0 wx => ∃ (V : World) (xR : Option Addr) (yR : Nat) (SR : Nat → Prop), V = wx ∧ s0 = .slice xR R.length yR ∧ Owns V (ints R) (.slice xR R.length yR) SR ∧ (∀ t, SR t → w11.heap.size ≤ t ∧ t < V.heap.size) ∧ Below w11.heap.size w11 V)
  case first =>
    have hq0 : w.heap.size ≤ w11.heap.size := hB11.size
    have hW0 : Below w11.heap.size w11 w11 := Below.refl _ _
    have ee0 : Below w11.heap.size w11 w11 := Below.refl _ _
    go_wp2_with fail
    go_at_call 19
    refine Calls.mono (gto_OpS (lo := 0) (hi := w.heap.size) (fL.below (w := w11) ee0) (Nat.le_trans hq0 (Below.size (B := w11.heap.size) (w := w11) ee0)) (by omega)) ?_
    rintro e u1 ⟨v1, rfl, ho, hb⟩
    have hv1 : Below w11.heap.size w11 u1 := Below.trans (show Below w11.heap.size w11 _ from ee0) (hb.mono (Below.size (B := w11.heap.size) (w := w11) ee0))
    have fL := fL.below hv1
    obtain ⟨XL, YL, rfl, _⟩ : ∃ a c, v1 = .slice a lL.length c ∧ True := (by obtain ⟨a, c, q, _⟩ := ho; exact ⟨a, c, q, trivial⟩)
    have qL := Owns.lies (lo := 0) (hi := u1.heap.size) ho (fun t h => ⟨Nat.zero_le _, h.2⟩)
    clear ho
    have hq1 := Nat.le_trans hq0 hv1.size
    have hz1 := hv1.size
    have ee1 : Below u1.heap.size u1 u1 := Below.refl _ _
    have hW1 := hW0.trans (hv1.mono hW0.size)
    clear hb
    go_wp2_with fail
    go_at_call 16
    refine Calls.mono (hI _ _ _ _ _ (Lies.below (w := u1) qL ee1) (Nat.le_trans (by omega) (Below.size (B := u1.heap.size) (w := u1) ee1))) ?_
    rintro e u2 ⟨xR, yR, SR, rfl, roR, suR, hb⟩
    have hv2 : Below u1.heap.size u1 u2 := Below.trans (show Below u1.heap.size u1 _ from ee1) (hb.mono (Below.size (B := u1.heap.size) (w := u1) ee1))
    have qL := Lies.below qL hv2
    have fL := fL.below hv2
    have szR := hb.size
    have hq2 := Nat.le_trans hq1 hv2.size
    have hz2 := hv2.size
    have ee2 : Below u2.heap.size u2 u2 := Below.refl _ _
    have hW2 := hW1.trans (hv2.mono hW1.size)
    clear hb
    go_wp2_with fail
    go_meet
    case rel => exact ⟨_, _, _, SR, rfl, rfl, roR, (fun t hS => by have q := suR t hS; (try simp only [gsize_alloc] at q); (try simp only [gsize_drew] at q); (try simp only [gsize_alloc]); (try simp only [gsize_set]); omega), hW2⟩
  case rest =>
  obtain ⟨w12, xHR, yHR, SHR, rfl, rfl, rHR, urHR, hb12⟩ := hcut
  have hs12 : w11.heap.size ≤ w12.heap.size := hb12.size
  have fL := fL.below hb12
  have rWR := Owns.below rWR hb12
  have rGR := Owns.below rGR hb12
  have hB12 := hB11.trans (hb12.mono hB11.size)
  clear hb12
  go_wp2_with fail
  go_at_call 24
  refine Calls.mono (geq_IntS (Owns.lies rHR urHR) (Owns.lies rWR urWR)) ?_
  rintro e w13 ⟨rfl, hb13⟩
  have hs13 : w12.heap.size ≤ w13.heap.size := hb13.size
  have fL := fL.below hb13
  have rWR := Owns.below rWR hb13
  have rGR := Owns.below rGR hb13
  have rHR := Owns.below rHR hb13
  have hB13 := hB12.trans (hb13.mono hB12.size)
  clear hb13
  have hM := gheld_IntS 1 (Owns.lies rGR urGR) (by omega)
  rw [hM1] at hM
  have dM : decide ((M1 : Int) < 0) = false := by first | (simp; done) | (simp; omega)
  go_wp2_with fail
  go_at_call 27
  refine Calls.mono (hM) ?_
  rintro e w14 ⟨rfl, m14, hw14⟩
  have hb14 : Below w13.heap.size w13 w14 := by rw [hw14]; exact gbelow_drewN (Below.refl _ _) _
  clear hw14
  have hs14 : w13.heap.size ≤ w14.heap.size := hb14.size
  have fL := fL.below hb14
  have rWR := Owns.below rWR hb14
  have rGR := Owns.below rGR hb14
  have rHR := Owns.below rHR hb14
  have hB14 := hB13.trans (hb14.mono hB13.size)
  clear hb14
  clear hM
  go_wp2
  go_ret
  exact ⟨rfl, hB14⟩
end Go.Proofs.Ytnadalpehbeopaa.FnExactScriptIntsW
