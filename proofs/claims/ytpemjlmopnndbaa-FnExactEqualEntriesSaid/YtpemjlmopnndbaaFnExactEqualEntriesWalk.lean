/-
  The law FnExactEqualEntries returns true, and leaves what was there as it was.
  Conditions: the arguments can be read.
-/
import Derived.Test.YtpemjlmopnndbaaEntS
import Derived.Test.YtpemjlmopnndbaaEntI
import Derived.Deep.CutBlock
import Derived.Deep.DeepCutAuto
import Derived.Deep.RegionHeld3
namespace Go.Proofs.Ytpemjlmopnndbaa.FnExactEqualEntriesW
open Go Go.RowKit Go.Proofs.Ytpemjlmopnndbaa.Mem Go.Proofs.Ytpemjlmopnndbaa.Gen Go.Proofs.Ytpemjlmopnndbaa.Rec
set_option linter.unusedVariables false

set_option maxHeartbeats 4000000 in
set_option maxRecDepth 100000 in
theorem law_walk (lA : List TEntry) (aA : Option Addr) (cA : Nat) (lB : List TEntry) (aB : Option Addr) (cB : Nat) (w : World) (fA : Lies 0 w.heap.size w (dEntry lA) (.slice aA lA.length cA)) (fB : Lies 0 w.heap.size w (dEntry lB) (.slice aB lB.length cB)) :
    Calls Try.prog 4 #[.slice aA lA.length cA, .slice aB lB.length cB] w fun e w' => e = .returned (.bool true) ∧ Below w.heap.size w w' := by
  have hB0 : Below w.heap.size w w := Below.refl _ _
  have hs0 : w.heap.size ≤ w.heap.size := Nat.le_refl _
  go_enter Try.func4, Try.ntmps4
  go_wp2_with fail
  go_at_call 5
  refine Calls.mono (gsz_EntryS (lo := 0) (hi := w.heap.size) fA hB0.size 1048576 (by omega) (by omega)) ?_
  rintro e w1 ⟨rfl, hb1⟩
  have hs1 : w.heap.size ≤ w1.heap.size := hb1.size
  have fA := fA.below hb1
  have fB := fB.below hb1
  have hB1 := hB0.trans (hb1.mono hB0.size)
  clear hb1
  have hl1 := left_cases 1048576 (room (dEntry lA)) (by omega)
  obtain ⟨L1, hL1⟩ : ∃ L, left 1048576 (room (dEntry lA)) = L := ⟨_, rfl⟩
  rw [hL1] at hl1 ⊢
  rcases hl1 with ⟨rfl, hl1⟩ | ⟨hl1, gl1⟩
  · go_wp2
    go_ret
    exact ⟨rfl, hB1⟩
  have dl1 : decide (L1 < 0) = false := by simp; omega
  have ml1 : L1 ≤ 1048576 := by omega
  have rmA : room (dEntry lA) ≤ 1048576 := by omega
  clear hl1 hL1
  go_wp2_with fail
  go_at_call 5
  refine Calls.mono (gsz_EntryS (lo := 0) (hi := w.heap.size) fB hB1.size L1 gl1 ml1) ?_
  rintro e w2 ⟨rfl, hb2⟩
  have hs2 : w1.heap.size ≤ w2.heap.size := hb2.size
  have fA := fA.below hb2
  have fB := fB.below hb2
  have hB2 := hB1.trans (hb2.mono hB1.size)
  clear hb2
  have hl2 := left_cases L1 (room (dEntry lB)) gl1
  obtain ⟨L2, hL2⟩ : ∃ L, left L1 (room (dEntry lB)) = L := ⟨_, rfl⟩
  rw [hL2] at hl2 ⊢
  rcases hl2 with ⟨rfl, hl2⟩ | ⟨hl2, gl2⟩
  · go_wp2
    go_ret
    exact ⟨rfl, hB2⟩
  have dl2 : decide (L2 < 0) = false := by simp; omega
  have ml2 : L2 ≤ 1048576 := by omega
  have rmB : room (dEntry lB) ≤ 1048576 := by omega
  clear hl2 hL2
  have lA16 : lA.length ≤ 1048576 := by have h0 : room (dEntry lA) = lA.length + _ := rfl; omega
  have lB16 : lB.length ≤ 1048576 := by have h0 : room (dEntry lB) = lB.length + _ := rfl; omega
  obtain ⟨R, hR⟩ : ∃ R : Bool, sameE lA lB = R := ⟨_, rfl⟩
  have hS : ∀ (W : World) (loA hiA : Nat) (aA : Option Addr) (cA : Nat) (loB hiB : Nat) (aB : Option Addr) (cB : Nat), Lies loA hiA W (dEntry lA) (.slice aA lA.length cA) → hiA ≤ W.heap.size → Lies loB hiB W (dEntry lB) (.slice aB lB.length cB) → hiB ≤ W.heap.size → Calls Try.prog 10 #[.slice aA lA.length cA, .slice aB lB.length cB] W (fun e w' => e = .returned (.bool R) ∧ Below W.heap.size W w') := by
    intro W loA hiA aA cA loB hiB aB cB hA sA hB sB
    rw [← hR]
    exact same_spec loA hiA loB hiB W aA cA lA aB cB lB hA hB sA sB lA16 lB16
  have hI : ∀ (W : World) (loA hiA : Nat) (aA : Option Addr) (cA : Nat) (loB hiB : Nat) (aB : Option Addr) (cB : Nat), Lies loA hiA W (dEntry lA) (.slice aA lA.length cA) → hiA ≤ W.heap.size → Lies loB hiB W (dEntry lB) (.slice aB lB.length cB) → hiB ≤ W.heap.size → Calls Try.prog 11 #[.slice aA lA.length cA, .slice aB lB.length cB] W (fun e w' => e = .returned (.bool R) ∧ Below W.heap.size W w') := by
    intro W loA hiA aA cA loB hiB aB cB hA sA hB sB
    rw [← hR]
    exact same_impl loA hiA loB hiB W aA cA lA aB cB lB hA hB sA sB lA16 lB16
  clear hR
  go_upto_region 8 with fail
  go_cut [6] (fun s0 wx => ∃ (V : World) , V = wx ∧ s0 = .bool R ∧ Below w2.heap.size w2 V)
  case first =>
    have hq0 : w.heap.size ≤ w2.heap.size := hB2.size
    have hW0 : Below w2.heap.size w2 w2 := Below.refl _ _
    have ee0 : Below w2.heap.size w2 w2 := Below.refl _ _
    go_wp2_with fail
    go_at_call 7
    refine Calls.mono (gto_EntryS (lo := 0) (hi := w.heap.size) (fA.below (w := w2) ee0) (Nat.le_trans hq0 (Below.size (B := w2.heap.size) (w := w2) ee0)) (by omega)) ?_
    rintro e u1 ⟨v1, rfl, ho, hb⟩
    have hv1 : Below w2.heap.size w2 u1 := Below.trans (show Below w2.heap.size w2 _ from ee0) (hb.mono (Below.size (B := w2.heap.size) (w := w2) ee0))
    have fA := fA.below hv1
    have fB := fB.below hv1
    obtain ⟨XA, YA, rfl, _⟩ : ∃ a c, v1 = .slice a lA.length c ∧ True := (by obtain ⟨a, c, q, _⟩ := ho; exact ⟨a, c, q, trivial⟩)
    have qA := Owns.lies (lo := 0) (hi := u1.heap.size) ho (fun t h => ⟨Nat.zero_le _, h.2⟩)
    clear ho
    have hq1 := Nat.le_trans hq0 hv1.size
    have hz1 := hv1.size
    have ee1 : Below u1.heap.size u1 u1 := Below.refl _ _
    have hW1 := hW0.trans (hv1.mono hW0.size)
    clear hb
    go_wp2_with fail
    go_at_call 7
    refine Calls.mono (gto_EntryS (lo := 0) (hi := w.heap.size) (fB.below (w := u1) ee1) (Nat.le_trans hq1 (Below.size (B := u1.heap.size) (w := u1) ee1)) (by omega)) ?_
    rintro e u2 ⟨v2, rfl, ho, hb⟩
    have hv2 : Below u1.heap.size u1 u2 := Below.trans (show Below u1.heap.size u1 _ from ee1) (hb.mono (Below.size (B := u1.heap.size) (w := u1) ee1))
    have qA := Lies.below qA hv2
    have fA := fA.below hv2
    have fB := fB.below hv2
    obtain ⟨XB, YB, rfl, _⟩ : ∃ a c, v2 = .slice a lB.length c ∧ True := (by obtain ⟨a, c, q, _⟩ := ho; exact ⟨a, c, q, trivial⟩)
    have qB := Owns.lies (lo := 0) (hi := u2.heap.size) ho (fun t h => ⟨Nat.zero_le _, h.2⟩)
    clear ho
    have hq2 := Nat.le_trans hq1 hv2.size
    have hz2 := hv2.size
    have ee2 : Below u2.heap.size u2 u2 := Below.refl _ _
    have hW2 := hW1.trans (hv2.mono hW1.size)
    clear hb
    go_wp2_with fail
    go_at_call 10
    refine Calls.mono (hS _ _ _ _ _ _ _ _ _ (Lies.below (w := u2) qA ee2) (Nat.le_trans (by omega) (Below.size (B := u2.heap.size) (w := u2) ee2)) (Lies.below (w := u2) qB ee2) (Nat.le_trans (by omega) (Below.size (B := u2.heap.size) (w := u2) ee2))) ?_
    rintro e u3 ⟨rfl, hb⟩
    have hv3 : Below u2.heap.size u2 u3 := Below.trans (show Below u2.heap.size u2 _ from ee2) (hb.mono (Below.size (B := u2.heap.size) (w := u2) ee2))
    have qA := Lies.below qA hv3
    have qB := Lies.below qB hv3
    have fA := fA.below hv3
    have fB := fB.below hv3
    have hq3 := Nat.le_trans hq2 hv3.size
    have hz3 := hv3.size
    have ee3 : Below u3.heap.size u3 u3 := Below.refl _ _
    have hW3 := hW2.trans (hv3.mono hW2.size)
    clear hb
    go_wp2_with fail
    go_meet
    case rel => exact ⟨_, rfl, rfl, hW3⟩
  case rest =>
  obtain ⟨w3, rfl, rfl, hb3⟩ := hcut
  have hs3 : w2.heap.size ≤ w3.heap.size := hb3.size
  have fA := fA.below hb3
  have fB := fB.below hb3
  have hB3 := hB2.trans (hb3.mono hB2.size)
  clear hb3
  go_wp2_with fail
  go_at_call 7
  refine Calls.mono (gto_EntryS (lo := 0) (hi := w.heap.size) fA hB3.size (by omega)) ?_
  rintro e w4 ⟨v4, rfl, ho4, hb4⟩
  obtain ⟨xxA, yxA, rfl, _⟩ : ∃ a c, v4 = .slice a lA.length c ∧ True := by obtain ⟨a, c, q, _⟩ := ho4; exact ⟨a, c, q, trivial⟩
  have hs4 : w3.heap.size ≤ w4.heap.size := hb4.size
  have fA := fA.below hb4
  have fB := fB.below hb4
  have hB4 := hB3.trans (hb4.mono hB3.size)
  clear hb4
  have gxA := ho4
  clear ho4
  have ugxA : ∀ t, Span w3.heap.size w4.heap.size t → w3.heap.size ≤ t ∧ t < w4.heap.size := fun t h => h
  go_wp2_with fail
  go_at_call 7
  refine Calls.mono (gto_EntryS (lo := 0) (hi := w.heap.size) fB hB4.size (by omega)) ?_
  rintro e w5 ⟨v5, rfl, ho5, hb5⟩
  obtain ⟨xxB, yxB, rfl, _⟩ : ∃ a c, v5 = .slice a lB.length c ∧ True := by obtain ⟨a, c, q, _⟩ := ho5; exact ⟨a, c, q, trivial⟩
  have hs5 : w4.heap.size ≤ w5.heap.size := hb5.size
  have fA := fA.below hb5
  have fB := fB.below hb5
  have gxA := Owns.below gxA hb5
  have hB5 := hB4.trans (hb5.mono hB4.size)
  clear hb5
  have gxB := ho5
  clear ho5
  have ugxB : ∀ t, Span w4.heap.size w5.heap.size t → w4.heap.size ≤ t ∧ t < w5.heap.size := fun t h => h
  go_upto_region 11 with fail
  go_cut [9] (fun s0 wx => ∃ (V : World) , V = wx ∧ s0 = .bool R ∧ Below w5.heap.size w5 V)
  case first =>
    have hq0 : w.heap.size ≤ w5.heap.size := hB5.size
    have hW0 : Below w5.heap.size w5 w5 := Below.refl _ _
    have ee0 : Below w5.heap.size w5 w5 := Below.refl _ _
    go_wp2_with fail
    go_at_call 11
    refine Calls.mono (hI _ _ _ _ _ _ _ _ _ (Lies.below (w := w5) (Owns.lies gxA (hi := w5.heap.size) (lo := 0) (fun t h => ⟨Nat.zero_le _, by have := ugxA t h; omega⟩)) ee0) (Nat.le_trans (by omega) (Below.size (B := w5.heap.size) (w := w5) ee0)) (Lies.below (w := w5) (Owns.lies gxB (hi := w5.heap.size) (lo := 0) (fun t h => ⟨Nat.zero_le _, by have := ugxB t h; omega⟩)) ee0) (Nat.le_trans (by omega) (Below.size (B := w5.heap.size) (w := w5) ee0))) ?_
    rintro e u1 ⟨rfl, hb⟩
    have hv1 : Below w5.heap.size w5 u1 := Below.trans (show Below w5.heap.size w5 _ from ee0) (hb.mono (Below.size (B := w5.heap.size) (w := w5) ee0))
    have fA := fA.below hv1
    have fB := fB.below hv1
    have gxA := Owns.below gxA hv1
    have gxB := Owns.below gxB hv1
    have hq1 := Nat.le_trans hq0 hv1.size
    have hz1 := hv1.size
    have ee1 : Below u1.heap.size u1 u1 := Below.refl _ _
    have hW1 := hW0.trans (hv1.mono hW0.size)
    clear hb
    go_wp2_with fail
    go_meet
    case rel => exact ⟨_, rfl, rfl, hW1⟩
  case rest =>
  obtain ⟨w6, rfl, rfl, hb6⟩ := hcut
  have hs6 : w5.heap.size ≤ w6.heap.size := hb6.size
  have fA := fA.below hb6
  have fB := fB.below hb6
  have gxA := Owns.below gxA hb6
  have gxB := Owns.below gxB hb6
  have hB6 := hB5.trans (hb6.mono hB5.size)
  clear hb6
  go_wp2_with fail
  go_at_call 7
  refine Calls.mono (gto_EntryS (lo := 0) (hi := w.heap.size) fA hB6.size (by omega)) ?_
  rintro e w7 ⟨v7, rfl, ho7, hb7⟩
  obtain ⟨xyA, yyA, rfl, _⟩ : ∃ a c, v7 = .slice a lA.length c ∧ True := by obtain ⟨a, c, q, _⟩ := ho7; exact ⟨a, c, q, trivial⟩
  have hs7 : w6.heap.size ≤ w7.heap.size := hb7.size
  have fA := fA.below hb7
  have fB := fB.below hb7
  have gxA := Owns.below gxA hb7
  have gxB := Owns.below gxB hb7
  have hB7 := hB6.trans (hb7.mono hB6.size)
  clear hb7
  have gyA := ho7
  clear ho7
  have ugyA : ∀ t, Span w6.heap.size w7.heap.size t → w6.heap.size ≤ t ∧ t < w7.heap.size := fun t h => h
  go_wp2_with fail
  go_at_call 9
  refine Calls.mono (geq_EntryS (Owns.lies gxA ugxA) (Owns.lies gyA ugyA) (by omega) (by omega)) ?_
  rintro e w8 ⟨rfl, hb8⟩
  have hs8 : w7.heap.size ≤ w8.heap.size := hb8.size
  have fA := fA.below hb8
  have fB := fB.below hb8
  have gxA := Owns.below gxA hb8
  have gxB := Owns.below gxB hb8
  have gyA := Owns.below gyA hb8
  have hB8 := hB7.trans (hb8.mono hB7.size)
  clear hb8
  clear gyA ugyA
  go_wp2_with fail
  go_at_call 7
  refine Calls.mono (gto_EntryS (lo := 0) (hi := w.heap.size) fB hB8.size (by omega)) ?_
  rintro e w9 ⟨v9, rfl, ho9, hb9⟩
  obtain ⟨xyB, yyB, rfl, _⟩ : ∃ a c, v9 = .slice a lB.length c ∧ True := by obtain ⟨a, c, q, _⟩ := ho9; exact ⟨a, c, q, trivial⟩
  have hs9 : w8.heap.size ≤ w9.heap.size := hb9.size
  have fA := fA.below hb9
  have fB := fB.below hb9
  have gxA := Owns.below gxA hb9
  have gxB := Owns.below gxB hb9
  have hB9 := hB8.trans (hb9.mono hB8.size)
  clear hb9
  have gyB := ho9
  clear ho9
  have ugyB : ∀ t, Span w8.heap.size w9.heap.size t → w8.heap.size ≤ t ∧ t < w9.heap.size := fun t h => h
  go_wp2_with fail
  go_at_call 9
  refine Calls.mono (geq_EntryS (Owns.lies gxB ugxB) (Owns.lies gyB ugyB) (by omega) (by omega)) ?_
  rintro e w10 ⟨rfl, hb10⟩
  have hs10 : w9.heap.size ≤ w10.heap.size := hb10.size
  have fA := fA.below hb10
  have fB := fB.below hb10
  have gxA := Owns.below gxA hb10
  have gxB := Owns.below gxB hb10
  have gyB := Owns.below gyB hb10
  have hB10 := hB9.trans (hb10.mono hB9.size)
  clear hb10
  clear gyB ugyB
  go_wp2
  go_ret
  exact ⟨rfl, hB10⟩
end Go.Proofs.Ytpemjlmopnndbaa.FnExactEqualEntriesW
