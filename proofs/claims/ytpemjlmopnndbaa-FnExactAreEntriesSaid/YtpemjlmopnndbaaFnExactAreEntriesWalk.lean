/-
  The law FnExactAreEntries returns true, and leaves what was there as it was.
  Conditions: the arguments can be read.
-/
import Derived.Test.YtpemjlmopnndbaaEntS
import Derived.Test.YtpemjlmopnndbaaEntI
import Derived.Deep.CutBlock
import Derived.Deep.DeepCutAuto
import Derived.Deep.RegionHeld3
namespace Go.Proofs.Ytpemjlmopnndbaa.FnExactAreEntriesW
open Go Go.RowKit Go.Proofs.Ytpemjlmopnndbaa.Mem Go.Proofs.Ytpemjlmopnndbaa.Gen Go.Proofs.Ytpemjlmopnndbaa.Rec
set_option linter.unusedVariables false

set_option maxHeartbeats 4000000 in
set_option maxRecDepth 100000 in
theorem law_walk (lL : List TEntry) (aL : Option Addr) (cL : Nat) (w : World) (fL : Lies 0 w.heap.size w (dEntry lL) (.slice aL lL.length cL)) :
    Calls Try.prog 3 #[.slice aL lL.length cL] w fun e w' => e = .returned (.bool true) ∧ Below w.heap.size w w' := by
  have hB0 : Below w.heap.size w w := Below.refl _ _
  have hs0 : w.heap.size ≤ w.heap.size := Nat.le_refl _
  go_enter Try.func3, Try.ntmps3
  go_wp2_with fail
  go_at_call 5
  refine Calls.mono (gsz_EntryS (lo := 0) (hi := w.heap.size) fL hB0.size 1048576 (by omega) (by omega)) ?_
  rintro e w1 ⟨rfl, hb1⟩
  have hs1 : w.heap.size ≤ w1.heap.size := hb1.size
  have fL := fL.below hb1
  have hB1 := hB0.trans (hb1.mono hB0.size)
  clear hb1
  have hl1 := left_cases 1048576 (room (dEntry lL)) (by omega)
  obtain ⟨L1, hL1⟩ : ∃ L, left 1048576 (room (dEntry lL)) = L := ⟨_, rfl⟩
  rw [hL1] at hl1 ⊢
  rcases hl1 with ⟨rfl, hl1⟩ | ⟨hl1, gl1⟩
  · go_wp2
    go_ret
    exact ⟨rfl, hB1⟩
  have dl1 : decide (L1 < 0) = false := by simp; omega
  have ml1 : L1 ≤ 1048576 := by omega
  have rmL : room (dEntry lL) ≤ 1048576 := by omega
  clear hl1 hL1
  have lL16 : lL.length ≤ 1048576 := by have h0 : room (dEntry lL) = lL.length + _ := rfl; omega
  obtain ⟨R, hR⟩ : ∃ R : Bool, entriesB lL = R := ⟨_, rfl⟩
  have hS : ∀ (W : World) (loL hiL : Nat) (aL : Option Addr) (cL : Nat), Lies loL hiL W (dEntry lL) (.slice aL lL.length cL) → hiL ≤ W.heap.size → Calls Try.prog 6 #[.slice aL lL.length cL] W (fun e w' => e = .returned (.bool R) ∧ Below W.heap.size W w') := by
    intro W loL hiL aL cL hL sL
    rw [← hR]
    exact are_spec loL hiL W aL cL lL hL sL lL16
  have hI : ∀ (W : World) (loL hiL : Nat) (aL : Option Addr) (cL : Nat), Lies loL hiL W (dEntry lL) (.slice aL lL.length cL) → hiL ≤ W.heap.size → Calls Try.prog 8 #[.slice aL lL.length cL] W (fun e w' => e = .returned (.bool R) ∧ Below W.heap.size W w') := by
    intro W loL hiL aL cL hL sL
    rw [← hR]
    exact are_impl loL hiL W aL cL lL hL sL lL16
  clear hR
  go_upto_region 5 with fail
  go_cut [4] (fun s0 wx => ∃ (V : World) , V = wx ∧ s0 = .bool R ∧ Below w1.heap.size w1 V)
  case first =>
    have hq0 : w.heap.size ≤ w1.heap.size := hB1.size
    have hW0 : Below w1.heap.size w1 w1 := Below.refl _ _
    have ee0 : Below w1.heap.size w1 w1 := Below.refl _ _
    go_wp2_with fail
    go_at_call 7
    refine Calls.mono (gto_EntryS (lo := 0) (hi := w.heap.size) (fL.below (w := w1) ee0) (Nat.le_trans hq0 (Below.size (B := w1.heap.size) (w := w1) ee0)) (by omega)) ?_
    rintro e u1 ⟨v1, rfl, ho, hb⟩
    have hv1 : Below w1.heap.size w1 u1 := Below.trans (show Below w1.heap.size w1 _ from ee0) (hb.mono (Below.size (B := w1.heap.size) (w := w1) ee0))
    have fL := fL.below hv1
    obtain ⟨XL, YL, rfl, _⟩ : ∃ a c, v1 = .slice a lL.length c ∧ True := (by obtain ⟨a, c, q, _⟩ := ho; exact ⟨a, c, q, trivial⟩)
    have qL := Owns.lies (lo := 0) (hi := u1.heap.size) ho (fun t h => ⟨Nat.zero_le _, h.2⟩)
    clear ho
    have hq1 := Nat.le_trans hq0 hv1.size
    have hz1 := hv1.size
    have ee1 : Below u1.heap.size u1 u1 := Below.refl _ _
    have hW1 := hW0.trans (hv1.mono hW0.size)
    clear hb
    go_wp2_with fail
    go_at_call 6
    refine Calls.mono (hS _ _ _ _ _ (Lies.below (w := u1) qL ee1) (Nat.le_trans (by omega) (Below.size (B := u1.heap.size) (w := u1) ee1))) ?_
    rintro e u2 ⟨rfl, hb⟩
    have hv2 : Below u1.heap.size u1 u2 := Below.trans (show Below u1.heap.size u1 _ from ee1) (hb.mono (Below.size (B := u1.heap.size) (w := u1) ee1))
    have qL := Lies.below qL hv2
    have fL := fL.below hv2
    have hq2 := Nat.le_trans hq1 hv2.size
    have hz2 := hv2.size
    have ee2 : Below u2.heap.size u2 u2 := Below.refl _ _
    have hW2 := hW1.trans (hv2.mono hW1.size)
    clear hb
    go_wp2_with fail
    go_meet
    case rel => exact ⟨_, rfl, rfl, hW2⟩
  case rest =>
  obtain ⟨w2, rfl, rfl, hb2⟩ := hcut
  have hs2 : w1.heap.size ≤ w2.heap.size := hb2.size
  have fL := fL.below hb2
  have hB2 := hB1.trans (hb2.mono hB1.size)
  clear hb2
  go_wp2_with fail
  go_at_call 7
  refine Calls.mono (gto_EntryS (lo := 0) (hi := w.heap.size) fL hB2.size (by omega)) ?_
  rintro e w3 ⟨v3, rfl, ho3, hb3⟩
  obtain ⟨xxL, yxL, rfl, _⟩ : ∃ a c, v3 = .slice a lL.length c ∧ True := by obtain ⟨a, c, q, _⟩ := ho3; exact ⟨a, c, q, trivial⟩
  have hs3 : w2.heap.size ≤ w3.heap.size := hb3.size
  have fL := fL.below hb3
  have hB3 := hB2.trans (hb3.mono hB2.size)
  clear hb3
  have gxL := ho3
  clear ho3
  have ugxL : ∀ t, Span w2.heap.size w3.heap.size t → w2.heap.size ≤ t ∧ t < w3.heap.size := fun t h => h
  go_upto_region 7 with fail
  go_cut [6] (fun s0 wx => ∃ (V : World) , V = wx ∧ s0 = .bool R ∧ Below w3.heap.size w3 V)
  case first =>
    have hq0 : w.heap.size ≤ w3.heap.size := hB3.size
    have hW0 : Below w3.heap.size w3 w3 := Below.refl _ _
    have ee0 : Below w3.heap.size w3 w3 := Below.refl _ _
    go_wp2_with fail
    go_at_call 8
    refine Calls.mono (hI _ _ _ _ _ (Lies.below (w := w3) (Owns.lies gxL (hi := w3.heap.size) (lo := 0) (fun t h => ⟨Nat.zero_le _, by have := ugxL t h; omega⟩)) ee0) (Nat.le_trans (by omega) (Below.size (B := w3.heap.size) (w := w3) ee0))) ?_
    rintro e u1 ⟨rfl, hb⟩
    have hv1 : Below w3.heap.size w3 u1 := Below.trans (show Below w3.heap.size w3 _ from ee0) (hb.mono (Below.size (B := w3.heap.size) (w := w3) ee0))
    have fL := fL.below hv1
    have gxL := Owns.below gxL hv1
    have hq1 := Nat.le_trans hq0 hv1.size
    have hz1 := hv1.size
    have ee1 : Below u1.heap.size u1 u1 := Below.refl _ _
    have hW1 := hW0.trans (hv1.mono hW0.size)
    clear hb
    go_wp2_with fail
    go_meet
    case rel => exact ⟨_, rfl, rfl, hW1⟩
  case rest =>
  obtain ⟨w4, rfl, rfl, hb4⟩ := hcut
  have hs4 : w3.heap.size ≤ w4.heap.size := hb4.size
  have fL := fL.below hb4
  have gxL := Owns.below gxL hb4
  have hB4 := hB3.trans (hb4.mono hB3.size)
  clear hb4
  go_wp2_with fail
  go_at_call 7
  refine Calls.mono (gto_EntryS (lo := 0) (hi := w.heap.size) fL hB4.size (by omega)) ?_
  rintro e w5 ⟨v5, rfl, ho5, hb5⟩
  obtain ⟨xyL, yyL, rfl, _⟩ : ∃ a c, v5 = .slice a lL.length c ∧ True := by obtain ⟨a, c, q, _⟩ := ho5; exact ⟨a, c, q, trivial⟩
  have hs5 : w4.heap.size ≤ w5.heap.size := hb5.size
  have fL := fL.below hb5
  have gxL := Owns.below gxL hb5
  have hB5 := hB4.trans (hb5.mono hB4.size)
  clear hb5
  have gyL := ho5
  clear ho5
  have ugyL : ∀ t, Span w4.heap.size w5.heap.size t → w4.heap.size ≤ t ∧ t < w5.heap.size := fun t h => h
  go_wp2_with fail
  go_at_call 9
  refine Calls.mono (geq_EntryS (Owns.lies gxL ugxL) (Owns.lies gyL ugyL) (by omega) (by omega)) ?_
  rintro e w6 ⟨rfl, hb6⟩
  have hs6 : w5.heap.size ≤ w6.heap.size := hb6.size
  have fL := fL.below hb6
  have gxL := Owns.below gxL hb6
  have gyL := Owns.below gyL hb6
  have hB6 := hB5.trans (hb6.mono hB5.size)
  clear hb6
  clear gyL ugyL
  go_wp2
  go_ret
  exact ⟨rfl, hB6⟩
end Go.Proofs.Ytpemjlmopnndbaa.FnExactAreEntriesW
