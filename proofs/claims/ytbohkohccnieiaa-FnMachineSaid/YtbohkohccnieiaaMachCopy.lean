/-
  The machine, the model: a copy of a state.
  Conditions: the rows lie in memory, with 2^20 numbers at most.
-/
import Derived.Test.YtbohkohccnieiaaMachMath
import Derived.Test.YtbohkohccnieiaaIn1
import Derived.Test.YtbohkohccnieiaaInts
import Derived.Deep.RegionHeld3
import Derived.Deep.CutBlock
import Derived.Deep.DeepCutAuto
namespace Go.Proofs.Ytbohkohccnieiaa.Mach
open Go Go.RowKit Go.Proofs.Ytbohkohccnieiaa.Mem Go.Proofs.Ytbohkohccnieiaa.Gen Go.Proofs.Ytbohkohccnieiaa.Draw

/-- Three rows of a call's own and the struct that holds them. -/
def Three (T base R : Nat) (w V : World) (pc : Int) (z1 z2 z3 : List Int) : Prop :=
  ∃ (a1 : Option Addr) (c1 p1 : Nat) (a2 : Option Addr) (c2 p2 : Nat) (a3 : Option Addr) (c3 p3 : Nat), Blk T R [.int .i64 pc, .slice a1 z1.length c1, .slice a2 z2.length c2, .slice a3 z3.length c3] V ∧
    In1 p1 V a1 z1.length c1 z1 ∧ In1 p2 V a2 z2.length c2 z2 ∧ In1 p3 V a3 z3.length c3 z3 ∧ base ≤ p1 ∧ base ≤ p2 ∧ base ≤ p3 ∧ p1 ≠ p2 ∧ p1 ≠ p3 ∧ p2 ≠ p3 ∧ Below w.heap.size w V
theorem given_three {w V : World} {Q : TState} {a1 a2 a3 : Option Addr} {c1 c2 c3 p1 p2 p3 : Nat} (r1 : In1 p1 V a1 Q.f1.length c1 Q.f1) (r2 : In1 p2 V a2 Q.f2.length c2 Q.f2) (r3 : In1 p3 V a3 Q.f3.length c3 Q.f3) (b1 : w.heap.size ≤ p1) (b2 : w.heap.size ≤ p2) (b3 : w.heap.size ≤ p3) (h12 : p1 ≠ p2) (h13 : p1 ≠ p3) (h23 : p2 ≠ p3) (hb : Below w.heap.size w V) :
    GivenB w Q (.returned (.agg #[.int .i64 Q.f0, .slice a1 Q.f1.length c1, .slice a2 Q.f2.length c2, .slice a3 Q.f3.length c3])) V :=
  ⟨a1, c1, _, a2, c2, _, a3, c3, _, rfl, r1.owns, r2.owns, r3.owns, fun t h => by have := r1.lt; omega, fun t h => by have := r2.lt; omega, fun t h => by have := r3.lt; omega, fun t h h' => by omega, fun t h h' => by omega, fun t h h' => by omega, hb⟩

set_option maxHeartbeats 4000000 in
set_option maxRecDepth 100000 in
theorem copy_spec (P : TState) (w : World) (a1 : Option Addr) (c1 : Nat) (a2 : Option Addr) (c2 : Nat) (a3 : Option Addr) (c3 : Nat) (h : St w P a1 c1 a2 c2 a3 c3) (hm1 : P.f1.length ≤ 1048576) (hm2 : P.f2.length ≤ 1048576) (hm3 : P.f3.length ≤ 1048576) :
    Calls Try.prog 65 #[.agg #[.int .i64 P.f0, .slice a1 P.f1.length c1, .slice a2 P.f2.length c2, .slice a3 P.f3.length c3]] w (GivenB w P) := by
  obtain ⟨i0, hi0, hz0, hz1, hz2⟩ := info_parts Nts.info
  obtain ⟨W1, hW1⟩ : ∃ W1, w.alloc (.cells #[.int .i64 P.f0, .slice a1 P.f1.length c1, .slice a2 P.f2.length c2, .slice a3 P.f3.length c3] 27) = W1 := ⟨_, rfl⟩
  obtain ⟨W2, hW2⟩ : ∃ W2, W1.alloc (.cells #[.int .i64 0, .slice none 0 0, .slice none 0 0, .slice none 0 0] 27) = W2 := ⟨_, rfl⟩
  have h1 : Below w.heap.size w W1 := by rw [← hW1]; exact (Below.refl _ _).alloc (Nat.le_refl _) _
  have s1 : W1.heap.size = w.heap.size + 1 := by rw [← hW1, gsize_alloc]
  have s2 : W2.heap.size = w.heap.size + 1 + 1 := by rw [← hW2, gsize_alloc, s1]
  have hB : Below w.heap.size w W2 := by rw [← hW2]; exact h1.alloc h1.size _
  have qA : Blk 27 w.heap.size [.int .i64 P.f0, .slice a1 P.f1.length c1, .slice a2 P.f2.length c2, .slice a3 P.f3.length c3] W2 := by rw [← hW2, ← hW1]; exact (Blk.new _ [_, _, _, _] w).alloc _
  have qR : Blk 27 (w.heap.size + 1) [.int .i64 0, .slice none 0 0, .slice none 0 0, .slice none 0 0] W2 := by rw [← s1, ← hW2]; exact Blk.new _ [_, _, _, _] W1
  have hr0 := (h.r1.row'.1).below hB
  have hr1 := (h.r2.row'.1).below hB
  have hr2 := (h.r3.row'.1).below hB
  have hsz : w.heap.size + 2 ≤ W2.heap.size := by omega
  have HW : Hid ((w.alloc (.cells #[.int .i64 P.f0, .slice a1 P.f1.length c1, .slice a2 P.f2.length c2, .slice a3 P.f3.length c3] 27)).alloc (.cells #[.int .i64 0, .slice none 0 0, .slice none 0 0, .slice none 0 0] 27) = W2) := Lib.hid (by rw [hW1, hW2])
  clear hW1 hW2 s1 s2 h1 h
  go_enter Try.func65, Try.ntmps65
  go_upto_region 1 with fail
  rw [HW.out]
  go_cut [2] (fun s wx => ∃ V, V = wx ∧ s = .pointer (some ⟨w.heap.size + 1, 0, none⟩) ∧ Three 27 (w.heap.size + 2) (w.heap.size + 1) w V P.f0 P.f1 P.f2 P.f3)
  case first =>
    obtain ⟨V0, hV0⟩ : ∃ V, W2.drew = V := ⟨_, rfl⟩
    have hA : Below W2.heap.size W2 V0 := by rw [← hV0]; exact gbelow_drewN (Below.refl _ _) 1
    have qA := qA.below hA
    have qR := qR.below hA
    have hr0 := hr0.below hA
    have hr1 := hr1.below hA
    have hr2 := hr2.below hA
    have hB := hB.trans (hA.mono hB.size)
    have hsz : w.heap.size + 2 ≤ V0.heap.size := Nat.le_trans hsz hA.size
    have s9 : V0.cell? ⟨w.heap.size, 0, none⟩ = some (.int .i64 P.f0) ∧ V0.cell? ⟨w.heap.size, 1, none⟩ = some (.slice a1 P.f1.length c1) ∧ V0.cell? ⟨w.heap.size, 2, none⟩ = some (.slice a2 P.f2.length c2) ∧ V0.cell? ⟨w.heap.size, 3, none⟩ = some (.slice a3 P.f3.length c3) := ⟨qA.at rfl, qA.at rfl, qA.at rfl, qA.at rfl⟩
    clear hA
    refine wp_region_held_drew (S := (fun w' => w'.cell? ⟨w.heap.size, 0, none⟩ = some (.int .i64 P.f0) ∧ w'.cell? ⟨w.heap.size, 1, none⟩ = some (.slice a1 P.f1.length c1) ∧ w'.cell? ⟨w.heap.size, 2, none⟩ = some (.slice a2 P.f2.length c2) ∧ w'.cell? ⟨w.heap.size, 3, none⟩ = some (.slice a3 P.f3.length c3))) (by kernel_rfl) (by rw [hV0]; exact s9) (fun hHeld => ?_)
    rw [hV0]
    clear hV0
    refine wpAnyH_take (i := 0) (v := ?v0) (List.getElem?_toArray.trans rfl) (by kernel_rfl) (by kernel_rfl) (by kernel_rfl) (fun _ _ _ h => h) (Or.inl ⟨by rfl, ?y0⟩) (by assumption) ?r0
    case y0 => (intro w hSw; (try dsimp only at hSw); go_simp; try with_reducible rfl)
    try simp only [Act.put, List.setIfInBounds_toArray, List.set_cons_zero, List.set_cons_succ]
    refine wpAnyH_take (i := 1) (v := ?v1) (List.getElem?_toArray.trans rfl) (by kernel_rfl) (by kernel_rfl) (by kernel_rfl) (fun _ _ _ h => h) (Or.inl ⟨by rfl, ?y1⟩) (by assumption) ?r1
    case y1 => (intro w hSw; (try dsimp only at hSw); go_simp; try with_reducible rfl)
    try simp only [Act.put, List.setIfInBounds_toArray, List.set_cons_zero, List.set_cons_succ]
    refine wpAnyH_take (i := 3) (v := ?v3) (List.getElem?_toArray.trans rfl) (by kernel_rfl) (by kernel_rfl) (by kernel_rfl) (fun _ _ _ h => h) (Or.inl ⟨by rfl, ?y3⟩) (by assumption) ?r3
    case y3 => (intro w hSw; (try dsimp only at hSw); go_simp; try with_reducible rfl)
    try simp only [Act.put, List.setIfInBounds_toArray, List.set_cons_zero, List.set_cons_succ]
    refine wpAnyH_take (i := 4) (v := ?v4) (List.getElem?_toArray.trans rfl) (by kernel_rfl) (by kernel_rfl) (by kernel_rfl) (fun _ _ _ h => h) (Or.inl ⟨by rfl, ?y4⟩) (by assumption) ?r4
    case y4 => (intro w hSw; (try dsimp only at hSw); go_simp; try with_reducible rfl)
    try simp only [Act.put, List.setIfInBounds_toArray, List.set_cons_zero, List.set_cons_succ]
    refine wpAnyH_take (i := 7) (v := ?v7) (List.getElem?_toArray.trans rfl) (by kernel_rfl) (by kernel_rfl) (by kernel_rfl) (fun _ _ _ h => h) (Or.inl ⟨by rfl, ?y7⟩) (by assumption) ?r7
    case y7 => (intro w hSw; (try dsimp only at hSw); go_simp; try with_reducible rfl)
    try simp only [Act.put, List.setIfInBounds_toArray, List.set_cons_zero, List.set_cons_succ]
    refine wpAnyH_take (i := 8) (v := ?v8) (List.getElem?_toArray.trans rfl) (by kernel_rfl) (by kernel_rfl) (by kernel_rfl) (fun _ _ _ h => h) (Or.inl ⟨by rfl, ?y8⟩) (by assumption) ?r8
    case y8 => (intro w hSw; (try dsimp only at hSw); go_simp; try with_reducible rfl)
    try simp only [Act.put, List.setIfInBounds_toArray, List.set_cons_zero, List.set_cons_succ]
    refine wpAnyH_take (i := 11) (v := ?v11) (List.getElem?_toArray.trans rfl) (by kernel_rfl) (by kernel_rfl) (by kernel_rfl) (fun _ _ _ h => h) (Or.inl ⟨by rfl, ?y11⟩) (by assumption) ?r11
    case y11 => (intro w hSw; (try dsimp only at hSw); go_simp; try with_reducible rfl)
    try simp only [Act.put, List.setIfInBounds_toArray, List.set_cons_zero, List.set_cons_succ]
    refine wpAnyH_take (i := 12) (v := ?v12) (List.getElem?_toArray.trans rfl) (by kernel_rfl) (by kernel_rfl) (by kernel_rfl) (fun _ _ _ h => h) (Or.inl ⟨by rfl, ?y12⟩) (by assumption) ?r12
    case y12 => (intro w hSw; (try dsimp only at hSw); go_simp; try with_reducible rfl)
    try simp only [Act.put, List.setIfInBounds_toArray, List.set_cons_zero, List.set_cons_succ]
    refine wpAnyH_ready (rs := [2, 6, 10]) (by kernel_rfl) (by simp) ?_
    refine (AllReadyH.cons (List.getElem?_toArray.trans rfl) (fun K hK => ?q1_2) (AllReadyH.cons (List.getElem?_toArray.trans rfl) (fun K hK => ?q1_6) (AllReadyH.cons (List.getElem?_toArray.trans rfl) (fun K hK => ?q1_10) AllReadyH.nil)))
    case q1_2 =>
      obtain ⟨V1_2, hV⟩ : ∃ W, V0.alloc (.cells #[] 3) = W := ⟨_, rfl⟩
      have hA : Below V0.heap.size V0 V1_2 := by rw [← hV]; exact (Below.refl _ _).alloc (Nat.le_refl _) _
      obtain ⟨g0, hg0⟩ : ∃ g, V0.heap.size = g := ⟨_, rfl⟩
      have e0 : Blk 3 g0 [] V1_2 := by rw [← hV, ← hg0]; exact Blk.new _ [] _
      have gb0 : w.heap.size + 2 ≤ g0 := by rw [← hg0]; exact hsz
      have hgl0 : g0 ≤ V0.heap.size := by rw [← hg0]; exact Nat.le_refl _
      go_simp
      try rw [hV]
      try rw [hg0]
      have qA := qA.below hA
      have qR := qR.below hA
      have hr0 := hr0.below hA
      have hr1 := hr1.below hA
      have hr2 := hr2.below hA
      have hB := hB.trans (hA.mono hB.size)
      have hsz : w.heap.size + 2 ≤ V1_2.heap.size := Nat.le_trans hsz hA.size
      clear hA hV hg0 hgl0
      have s9 := (show V1_2.cell? ⟨w.heap.size, 0, none⟩ = some (.int .i64 P.f0) ∧ V1_2.cell? ⟨w.heap.size, 1, none⟩ = some (.slice a1 P.f1.length c1) ∧ V1_2.cell? ⟨w.heap.size, 2, none⟩ = some (.slice a2 P.f2.length c2) ∧ V1_2.cell? ⟨w.heap.size, 3, none⟩ = some (.slice a3 P.f3.length c3) from ⟨qA.at rfl, qA.at rfl, qA.at rfl, qA.at rfl⟩)
      refine hK.out _ _ s9 (fun hHeld => ?_)
      clear hK K
      try simp only [Act.put, List.setIfInBounds_toArray, List.set_cons_zero, List.set_cons_succ]
      refine wpAnyH_ready (rs := [5, 6, 10]) (by kernel_rfl) (by simp) ?_
      refine (AllReadyH.cons (List.getElem?_toArray.trans rfl) (fun K hK => ?q2_5) (AllReadyH.cons (List.getElem?_toArray.trans rfl) (fun K hK => ?q2_6) (AllReadyH.cons (List.getElem?_toArray.trans rfl) (fun K hK => ?q2_10) AllReadyH.nil)))
      case q2_5 =>
        refine step_copy rfl _ _ 25 rfl 3 i0 _ 8 Try.underlying25 hi0 hz0 hz1 hz2 rfl (by omega) g0 e0 rfl 0 w.heap.size (a1) (P.f1.length) c1 (P.f1) rfl hr0 (by omega) ?_
        intro x0 y0 p0 V2_5 r0 hp hz hk hb
        have hA := hb (w.heap.size + 2) gb0
        have pb0 : w.heap.size + 2 ≤ p0 := by rcases hp with h | h <;> omega
        have qA := qA.under hA (by omega)
        have qR := qR.under hA (by omega)
        have hr0 := hr0.under hA (by omega)
        have hr1 := hr1.under hA (by omega)
        have hr2 := hr2.under hA (by omega)
        have hB := hB.trans (hA.mono (by omega))
        have hsz : w.heap.size + 2 ≤ V2_5.heap.size := Nat.le_trans hsz hz
        clear hA hk hb hz hp
        have s9 := (show V2_5.cell? ⟨w.heap.size, 0, none⟩ = some (.int .i64 P.f0) ∧ V2_5.cell? ⟨w.heap.size, 1, none⟩ = some (.slice a1 P.f1.length c1) ∧ V2_5.cell? ⟨w.heap.size, 2, none⟩ = some (.slice a2 P.f2.length c2) ∧ V2_5.cell? ⟨w.heap.size, 3, none⟩ = some (.slice a3 P.f3.length c3) from ⟨qA.at rfl, qA.at rfl, qA.at rfl, qA.at rfl⟩)
        refine hK.out _ _ s9 (fun hHeld => ?_)
        clear hK K
        try simp only [Act.put, List.setIfInBounds_toArray, List.set_cons_zero, List.set_cons_succ]
        refine wpAnyH_ready (rs := [6, 10]) (by kernel_rfl) (by simp) ?_
        refine (AllReadyH.cons (List.getElem?_toArray.trans rfl) (fun K hK => ?q3_6) (AllReadyH.cons (List.getElem?_toArray.trans rfl) (fun K hK => ?q3_10) AllReadyH.nil))
        case q3_6 =>
          obtain ⟨V3_6, hV⟩ : ∃ W, V2_5.alloc (.cells #[] 3) = W := ⟨_, rfl⟩
          have hA : Below V2_5.heap.size V2_5 V3_6 := by rw [← hV]; exact (Below.refl _ _).alloc (Nat.le_refl _) _
          obtain ⟨g1, hg1⟩ : ∃ g, V2_5.heap.size = g := ⟨_, rfl⟩
          have e1 : Blk 3 g1 [] V3_6 := by rw [← hV, ← hg1]; exact Blk.new _ [] _
          have gb1 : w.heap.size + 2 ≤ g1 := by rw [← hg1]; exact hsz
          have m0_1 : p0 ≠ g1 := by have := r0.lt; omega
          have hgl1 : g1 ≤ V2_5.heap.size := by rw [← hg1]; exact Nat.le_refl _
          go_simp
          try rw [hV]
          try rw [hg1]
          have r0 := r0.below hA
          have qA := qA.below hA
          have qR := qR.below hA
          have hr0 := hr0.below hA
          have hr1 := hr1.below hA
          have hr2 := hr2.below hA
          have hB := hB.trans (hA.mono hB.size)
          have hsz : w.heap.size + 2 ≤ V3_6.heap.size := Nat.le_trans hsz hA.size
          clear hA hV hg1 hgl1
          have s9 := (show V3_6.cell? ⟨w.heap.size, 0, none⟩ = some (.int .i64 P.f0) ∧ V3_6.cell? ⟨w.heap.size, 1, none⟩ = some (.slice a1 P.f1.length c1) ∧ V3_6.cell? ⟨w.heap.size, 2, none⟩ = some (.slice a2 P.f2.length c2) ∧ V3_6.cell? ⟨w.heap.size, 3, none⟩ = some (.slice a3 P.f3.length c3) from ⟨qA.at rfl, qA.at rfl, qA.at rfl, qA.at rfl⟩)
          refine hK.out _ _ s9 (fun hHeld => ?_)
          clear hK K
          try simp only [Act.put, List.setIfInBounds_toArray, List.set_cons_zero, List.set_cons_succ]
          refine wpAnyH_ready (rs := [9, 10]) (by kernel_rfl) (by simp) ?_
          refine (AllReadyH.cons (List.getElem?_toArray.trans rfl) (fun K hK => ?q4_9) (AllReadyH.cons (List.getElem?_toArray.trans rfl) (fun K hK => ?q4_10) AllReadyH.nil))
          case q4_9 =>
            refine step_copy rfl _ _ 25 rfl 3 i0 _ 8 Try.underlying25 hi0 hz0 hz1 hz2 rfl (by omega) g1 e1 rfl 0 w.heap.size (a2) (P.f2.length) c2 (P.f2) rfl hr1 (by omega) ?_
            intro x1 y1 p1 V4_9 r1 hp hz hk hb
            have hA := hb (w.heap.size + 2) gb1
            have pb1 : w.heap.size + 2 ≤ p1 := by rcases hp with h | h <;> omega
            have n0_1 : p0 ≠ p1 := by have := r0.lt; omega
            have r0 := r0.keep (hk p0 r0.lt (by omega))
            have qA := qA.under hA (by omega)
            have qR := qR.under hA (by omega)
            have hr0 := hr0.under hA (by omega)
            have hr1 := hr1.under hA (by omega)
            have hr2 := hr2.under hA (by omega)
            have hB := hB.trans (hA.mono (by omega))
            have hsz : w.heap.size + 2 ≤ V4_9.heap.size := Nat.le_trans hsz hz
            clear hA hk hb hz hp
            have s9 := (show V4_9.cell? ⟨w.heap.size, 0, none⟩ = some (.int .i64 P.f0) ∧ V4_9.cell? ⟨w.heap.size, 1, none⟩ = some (.slice a1 P.f1.length c1) ∧ V4_9.cell? ⟨w.heap.size, 2, none⟩ = some (.slice a2 P.f2.length c2) ∧ V4_9.cell? ⟨w.heap.size, 3, none⟩ = some (.slice a3 P.f3.length c3) from ⟨qA.at rfl, qA.at rfl, qA.at rfl, qA.at rfl⟩)
            refine hK.out _ _ s9 (fun hHeld => ?_)
            clear hK K
            try simp only [Act.put, List.setIfInBounds_toArray, List.set_cons_zero, List.set_cons_succ]
            refine wpAnyH_ready (rs := [10]) (by kernel_rfl) (by simp) ?_
            refine (AllReadyH.cons (List.getElem?_toArray.trans rfl) (fun K hK => ?q5_10) AllReadyH.nil)
            case q5_10 =>
              obtain ⟨V5_10, hV⟩ : ∃ W, V4_9.alloc (.cells #[] 3) = W := ⟨_, rfl⟩
              have hA : Below V4_9.heap.size V4_9 V5_10 := by rw [← hV]; exact (Below.refl _ _).alloc (Nat.le_refl _) _
              obtain ⟨g2, hg2⟩ : ∃ g, V4_9.heap.size = g := ⟨_, rfl⟩
              have e2 : Blk 3 g2 [] V5_10 := by rw [← hV, ← hg2]; exact Blk.new _ [] _
              have gb2 : w.heap.size + 2 ≤ g2 := by rw [← hg2]; exact hsz
              have m0_2 : p0 ≠ g2 := by have := r0.lt; omega
              have m1_2 : p1 ≠ g2 := by have := r1.lt; omega
              have hgl2 : g2 ≤ V4_9.heap.size := by rw [← hg2]; exact Nat.le_refl _
              go_simp
              try rw [hV]
              try rw [hg2]
              have r0 := r0.below hA
              have r1 := r1.below hA
              have qA := qA.below hA
              have qR := qR.below hA
              have hr0 := hr0.below hA
              have hr1 := hr1.below hA
              have hr2 := hr2.below hA
              have hB := hB.trans (hA.mono hB.size)
              have hsz : w.heap.size + 2 ≤ V5_10.heap.size := Nat.le_trans hsz hA.size
              clear hA hV hg2 hgl2
              have s9 := (show V5_10.cell? ⟨w.heap.size, 0, none⟩ = some (.int .i64 P.f0) ∧ V5_10.cell? ⟨w.heap.size, 1, none⟩ = some (.slice a1 P.f1.length c1) ∧ V5_10.cell? ⟨w.heap.size, 2, none⟩ = some (.slice a2 P.f2.length c2) ∧ V5_10.cell? ⟨w.heap.size, 3, none⟩ = some (.slice a3 P.f3.length c3) from ⟨qA.at rfl, qA.at rfl, qA.at rfl, qA.at rfl⟩)
              refine hK.out _ _ s9 (fun hHeld => ?_)
              clear hK K
              try simp only [Act.put, List.setIfInBounds_toArray, List.set_cons_zero, List.set_cons_succ]
              refine wpAnyH_ready (rs := [13]) (by kernel_rfl) (by simp) ?_
              refine (AllReadyH.cons (List.getElem?_toArray.trans rfl) (fun K hK => ?q6_13) AllReadyH.nil)
              case q6_13 =>
                refine step_copy rfl _ _ 25 rfl 3 i0 _ 8 Try.underlying25 hi0 hz0 hz1 hz2 rfl (by omega) g2 e2 rfl 0 w.heap.size (a3) (P.f3.length) c3 (P.f3) rfl hr2 (by omega) ?_
                intro x2 y2 p2 V6_13 r2 hp hz hk hb
                have hA := hb (w.heap.size + 2) gb2
                have pb2 : w.heap.size + 2 ≤ p2 := by rcases hp with h | h <;> omega
                have n0_2 : p0 ≠ p2 := by have := r0.lt; omega
                have n1_2 : p1 ≠ p2 := by have := r1.lt; omega
                have r0 := r0.keep (hk p0 r0.lt (by omega))
                have r1 := r1.keep (hk p1 r1.lt (by omega))
                have qA := qA.under hA (by omega)
                have qR := qR.under hA (by omega)
                have hr0 := hr0.under hA (by omega)
                have hr1 := hr1.under hA (by omega)
                have hr2 := hr2.under hA (by omega)
                have hB := hB.trans (hA.mono (by omega))
                have hsz : w.heap.size + 2 ≤ V6_13.heap.size := Nat.le_trans hsz hz
                clear hA hk hb hz hp
                have s9 := (show V6_13.cell? ⟨w.heap.size, 0, none⟩ = some (.int .i64 P.f0) ∧ V6_13.cell? ⟨w.heap.size, 1, none⟩ = some (.slice a1 P.f1.length c1) ∧ V6_13.cell? ⟨w.heap.size, 2, none⟩ = some (.slice a2 P.f2.length c2) ∧ V6_13.cell? ⟨w.heap.size, 3, none⟩ = some (.slice a3 P.f3.length c3) from ⟨qA.at rfl, qA.at rfl, qA.at rfl, qA.at rfl⟩)
                refine hK.out _ _ s9 (fun hHeld => ?_)
                clear hK K
                try simp only [Act.put, List.setIfInBounds_toArray, List.set_cons_zero, List.set_cons_succ]
                refine wpAnyH_take (i := 14) (v := ?vb1) (List.getElem?_toArray.trans rfl) (by kernel_rfl) (by kernel_rfl) (by kernel_rfl) (fun _ _ _ h => h) (Or.inl ⟨by rfl, ?yb1⟩) (by assumption) ?rb1
                case yb1 => (intro w hSw; (try dsimp only at hSw); go_simp; try with_reducible rfl)
                try simp only [Act.put, List.setIfInBounds_toArray, List.set_cons_zero, List.set_cons_succ]
                refine wpAnyH_ready (rs := [15]) (by kernel_rfl) (by simp) ?_
                refine AllReadyH.cons (List.getElem?_toArray.trans rfl) (fun K hK => ?_) AllReadyH.nil
                have z0 := qR.at (x := 0) rfl
                have z1 := qR.at (x := 1) rfl
                have z2 := qR.at (x := 2) rfl
                have z3 := qR.at (x := 3) rfl
                have d0 := qR.free 0
                have d1 := qR.free 1
                have d2 := qR.free 2
                have d3 := qR.free 3
                have qF := (((qR.set 0 (.int .i64 P.f0)).set 1 (.slice x0 P.f1.length y0)).set 2 (.slice x1 P.f2.length y1)).set 3 (.slice x2 P.f3.length y2)
                simp only [List.set_cons_zero, List.set_cons_succ] at qF
                have pA := (((qA.other (a := ⟨w.heap.size + 1, 0, none⟩) (.int .i64 P.f0) (by dsimp only; omega)).other (a := ⟨w.heap.size + 1, 1, none⟩) (.slice x0 P.f1.length y0) (by dsimp only; omega)).other (a := ⟨w.heap.size + 1, 2, none⟩) (.slice x1 P.f2.length y1) (by dsimp only; omega)).other (a := ⟨w.heap.size + 1, 3, none⟩) (.slice x2 P.f3.length y2) (by dsimp only; omega)
                have t0 := (((r0.other (q := ⟨w.heap.size + 1, 0, none⟩) (.int .i64 P.f0) (by dsimp only; omega)).other (q := ⟨w.heap.size + 1, 1, none⟩) (.slice x0 P.f1.length y0) (by dsimp only; omega)).other (q := ⟨w.heap.size + 1, 2, none⟩) (.slice x1 P.f2.length y1) (by dsimp only; omega)).other (q := ⟨w.heap.size + 1, 3, none⟩) (.slice x2 P.f3.length y2) (by dsimp only; omega)
                have t1 := (((r1.other (q := ⟨w.heap.size + 1, 0, none⟩) (.int .i64 P.f0) (by dsimp only; omega)).other (q := ⟨w.heap.size + 1, 1, none⟩) (.slice x0 P.f1.length y0) (by dsimp only; omega)).other (q := ⟨w.heap.size + 1, 2, none⟩) (.slice x1 P.f2.length y1) (by dsimp only; omega)).other (q := ⟨w.heap.size + 1, 3, none⟩) (.slice x2 P.f3.length y2) (by dsimp only; omega)
                have t2 := (((r2.other (q := ⟨w.heap.size + 1, 0, none⟩) (.int .i64 P.f0) (by dsimp only; omega)).other (q := ⟨w.heap.size + 1, 1, none⟩) (.slice x0 P.f1.length y0) (by dsimp only; omega)).other (q := ⟨w.heap.size + 1, 2, none⟩) (.slice x1 P.f2.length y1) (by dsimp only; omega)).other (q := ⟨w.heap.size + 1, 3, none⟩) (.slice x2 P.f3.length y2) (by dsimp only; omega)
                have hF := (((hB.setCell (p := ⟨w.heap.size + 1, 0, none⟩) (by dsimp only; omega) (.int .i64 P.f0)).setCell (p := ⟨w.heap.size + 1, 1, none⟩) (by dsimp only; omega) (.slice x0 P.f1.length y0)).setCell (p := ⟨w.heap.size + 1, 2, none⟩) (by dsimp only; omega) (.slice x1 P.f2.length y1)).setCell (p := ⟨w.heap.size + 1, 3, none⟩) (by dsimp only; omega) (.slice x2 P.f3.length y2)
                go_simp
                obtain ⟨VF, hVF⟩ : ∃ VF, (((V6_13.setCell ⟨w.heap.size + 1, 0, none⟩ (.int .i64 P.f0)).setCell ⟨w.heap.size + 1, 1, none⟩ (.slice x0 P.f1.length y0)).setCell ⟨w.heap.size + 1, 2, none⟩ (.slice x1 P.f2.length y1)).setCell ⟨w.heap.size + 1, 3, none⟩ (.slice x2 P.f3.length y2) = VF := ⟨_, rfl⟩
                rw [hVF] at qF pA hF t0 t1 t2 ⊢
                have s9 : VF.cell? ⟨w.heap.size, 0, none⟩ = some (.int .i64 P.f0) ∧ VF.cell? ⟨w.heap.size, 1, none⟩ = some (.slice a1 P.f1.length c1) ∧ VF.cell? ⟨w.heap.size, 2, none⟩ = some (.slice a2 P.f2.length c2) ∧ VF.cell? ⟨w.heap.size, 3, none⟩ = some (.slice a3 P.f3.length c3) := ⟨pA.at rfl, pA.at rfl, pA.at rfl, pA.at rfl⟩
                refine hK.out _ _ s9 (fun hHeld => ?_)
                clear hK K
                try simp only [Act.put, List.setIfInBounds_toArray, List.set_cons_zero, List.set_cons_succ]
                refine wpAnyH_done (by kernel_rfl) ?_ _
                go_wp2_with fail
                go_meet
                case rel => exact ⟨_, rfl, rfl, x0, y0, p0, x1, y1, p1, x2, y2, p2, qF, t0, t1, t2, pb0, pb1, pb2, n0_1, n0_2, n1_2, hF⟩
          case q4_10 =>
            obtain ⟨V4_10, hV⟩ : ∃ W, V3_6.alloc (.cells #[] 3) = W := ⟨_, rfl⟩
            have hA : Below V3_6.heap.size V3_6 V4_10 := by rw [← hV]; exact (Below.refl _ _).alloc (Nat.le_refl _) _
            obtain ⟨g2, hg2⟩ : ∃ g, V3_6.heap.size = g := ⟨_, rfl⟩
            have e2 : Blk 3 g2 [] V4_10 := by rw [← hV, ← hg2]; exact Blk.new _ [] _
            have gb2 : w.heap.size + 2 ≤ g2 := by rw [← hg2]; exact hsz
            have m1_2 : g1 ≠ g2 := by have := e1.lt; omega
            have m0_2 : p0 ≠ g2 := by have := r0.lt; omega
            have hgl2 : g2 ≤ V3_6.heap.size := by rw [← hg2]; exact Nat.le_refl _
            go_simp
            try rw [hV]
            try rw [hg2]
            have e1 := e1.below hA
            have r0 := r0.below hA
            have qA := qA.below hA
            have qR := qR.below hA
            have hr0 := hr0.below hA
            have hr1 := hr1.below hA
            have hr2 := hr2.below hA
            have hB := hB.trans (hA.mono hB.size)
            have hsz : w.heap.size + 2 ≤ V4_10.heap.size := Nat.le_trans hsz hA.size
            clear hA hV hg2 hgl2
            have s9 := (show V4_10.cell? ⟨w.heap.size, 0, none⟩ = some (.int .i64 P.f0) ∧ V4_10.cell? ⟨w.heap.size, 1, none⟩ = some (.slice a1 P.f1.length c1) ∧ V4_10.cell? ⟨w.heap.size, 2, none⟩ = some (.slice a2 P.f2.length c2) ∧ V4_10.cell? ⟨w.heap.size, 3, none⟩ = some (.slice a3 P.f3.length c3) from ⟨qA.at rfl, qA.at rfl, qA.at rfl, qA.at rfl⟩)
            refine hK.out _ _ s9 (fun hHeld => ?_)
            clear hK K
            try simp only [Act.put, List.setIfInBounds_toArray, List.set_cons_zero, List.set_cons_succ]
            refine wpAnyH_ready (rs := [9]) (by kernel_rfl) (by simp) ?_
            refine (AllReadyH.cons (List.getElem?_toArray.trans rfl) (fun K hK => ?q7_9) AllReadyH.nil)
            case q7_9 =>
              refine step_copy rfl _ _ 25 rfl 3 i0 _ 8 Try.underlying25 hi0 hz0 hz1 hz2 rfl (by omega) g1 e1 rfl 0 w.heap.size (a2) (P.f2.length) c2 (P.f2) rfl hr1 (by omega) ?_
              intro x1 y1 p1 V7_9 r1 hp hz hk hb
              have hA := hb (w.heap.size + 2) gb1
              have pb1 : w.heap.size + 2 ≤ p1 := by rcases hp with h | h <;> omega
              have m1_2 : p1 ≠ g2 := by have := e2.lt; omega
              have n0_1 : p0 ≠ p1 := by have := r0.lt; omega
              have e2 : Blk 3 g2 [] V7_9 := (hk g2 e2.lt (by omega)).trans e2
              have r0 := r0.keep (hk p0 r0.lt (by omega))
              have qA := qA.under hA (by omega)
              have qR := qR.under hA (by omega)
              have hr0 := hr0.under hA (by omega)
              have hr1 := hr1.under hA (by omega)
              have hr2 := hr2.under hA (by omega)
              have hB := hB.trans (hA.mono (by omega))
              have hsz : w.heap.size + 2 ≤ V7_9.heap.size := Nat.le_trans hsz hz
              clear hA hk hb hz hp
              have s9 := (show V7_9.cell? ⟨w.heap.size, 0, none⟩ = some (.int .i64 P.f0) ∧ V7_9.cell? ⟨w.heap.size, 1, none⟩ = some (.slice a1 P.f1.length c1) ∧ V7_9.cell? ⟨w.heap.size, 2, none⟩ = some (.slice a2 P.f2.length c2) ∧ V7_9.cell? ⟨w.heap.size, 3, none⟩ = some (.slice a3 P.f3.length c3) from ⟨qA.at rfl, qA.at rfl, qA.at rfl, qA.at rfl⟩)
              refine hK.out _ _ s9 (fun hHeld => ?_)
              clear hK K
              try simp only [Act.put, List.setIfInBounds_toArray, List.set_cons_zero, List.set_cons_succ]
              refine wpAnyH_ready (rs := [13]) (by kernel_rfl) (by simp) ?_
              refine (AllReadyH.cons (List.getElem?_toArray.trans rfl) (fun K hK => ?q8_13) AllReadyH.nil)
              case q8_13 =>
                refine step_copy rfl _ _ 25 rfl 3 i0 _ 8 Try.underlying25 hi0 hz0 hz1 hz2 rfl (by omega) g2 e2 rfl 0 w.heap.size (a3) (P.f3.length) c3 (P.f3) rfl hr2 (by omega) ?_
                intro x2 y2 p2 V8_13 r2 hp hz hk hb
                have hA := hb (w.heap.size + 2) gb2
                have pb2 : w.heap.size + 2 ≤ p2 := by rcases hp with h | h <;> omega
                have n0_2 : p0 ≠ p2 := by have := r0.lt; omega
                have n1_2 : p1 ≠ p2 := by have := r1.lt; omega
                have r0 := r0.keep (hk p0 r0.lt (by omega))
                have r1 := r1.keep (hk p1 r1.lt (by omega))
                have qA := qA.under hA (by omega)
                have qR := qR.under hA (by omega)
                have hr0 := hr0.under hA (by omega)
                have hr1 := hr1.under hA (by omega)
                have hr2 := hr2.under hA (by omega)
                have hB := hB.trans (hA.mono (by omega))
                have hsz : w.heap.size + 2 ≤ V8_13.heap.size := Nat.le_trans hsz hz
                clear hA hk hb hz hp
                have s9 := (show V8_13.cell? ⟨w.heap.size, 0, none⟩ = some (.int .i64 P.f0) ∧ V8_13.cell? ⟨w.heap.size, 1, none⟩ = some (.slice a1 P.f1.length c1) ∧ V8_13.cell? ⟨w.heap.size, 2, none⟩ = some (.slice a2 P.f2.length c2) ∧ V8_13.cell? ⟨w.heap.size, 3, none⟩ = some (.slice a3 P.f3.length c3) from ⟨qA.at rfl, qA.at rfl, qA.at rfl, qA.at rfl⟩)
                refine hK.out _ _ s9 (fun hHeld => ?_)
                clear hK K
                try simp only [Act.put, List.setIfInBounds_toArray, List.set_cons_zero, List.set_cons_succ]
                refine wpAnyH_take (i := 14) (v := ?vb2) (List.getElem?_toArray.trans rfl) (by kernel_rfl) (by kernel_rfl) (by kernel_rfl) (fun _ _ _ h => h) (Or.inl ⟨by rfl, ?yb2⟩) (by assumption) ?rb2
                case yb2 => (intro w hSw; (try dsimp only at hSw); go_simp; try with_reducible rfl)
                try simp only [Act.put, List.setIfInBounds_toArray, List.set_cons_zero, List.set_cons_succ]
                refine wpAnyH_ready (rs := [15]) (by kernel_rfl) (by simp) ?_
                refine AllReadyH.cons (List.getElem?_toArray.trans rfl) (fun K hK => ?_) AllReadyH.nil
                have z0 := qR.at (x := 0) rfl
                have z1 := qR.at (x := 1) rfl
                have z2 := qR.at (x := 2) rfl
                have z3 := qR.at (x := 3) rfl
                have d0 := qR.free 0
                have d1 := qR.free 1
                have d2 := qR.free 2
                have d3 := qR.free 3
                have qF := (((qR.set 0 (.int .i64 P.f0)).set 1 (.slice x0 P.f1.length y0)).set 2 (.slice x1 P.f2.length y1)).set 3 (.slice x2 P.f3.length y2)
                simp only [List.set_cons_zero, List.set_cons_succ] at qF
                have pA := (((qA.other (a := ⟨w.heap.size + 1, 0, none⟩) (.int .i64 P.f0) (by dsimp only; omega)).other (a := ⟨w.heap.size + 1, 1, none⟩) (.slice x0 P.f1.length y0) (by dsimp only; omega)).other (a := ⟨w.heap.size + 1, 2, none⟩) (.slice x1 P.f2.length y1) (by dsimp only; omega)).other (a := ⟨w.heap.size + 1, 3, none⟩) (.slice x2 P.f3.length y2) (by dsimp only; omega)
                have t0 := (((r0.other (q := ⟨w.heap.size + 1, 0, none⟩) (.int .i64 P.f0) (by dsimp only; omega)).other (q := ⟨w.heap.size + 1, 1, none⟩) (.slice x0 P.f1.length y0) (by dsimp only; omega)).other (q := ⟨w.heap.size + 1, 2, none⟩) (.slice x1 P.f2.length y1) (by dsimp only; omega)).other (q := ⟨w.heap.size + 1, 3, none⟩) (.slice x2 P.f3.length y2) (by dsimp only; omega)
                have t1 := (((r1.other (q := ⟨w.heap.size + 1, 0, none⟩) (.int .i64 P.f0) (by dsimp only; omega)).other (q := ⟨w.heap.size + 1, 1, none⟩) (.slice x0 P.f1.length y0) (by dsimp only; omega)).other (q := ⟨w.heap.size + 1, 2, none⟩) (.slice x1 P.f2.length y1) (by dsimp only; omega)).other (q := ⟨w.heap.size + 1, 3, none⟩) (.slice x2 P.f3.length y2) (by dsimp only; omega)
                have t2 := (((r2.other (q := ⟨w.heap.size + 1, 0, none⟩) (.int .i64 P.f0) (by dsimp only; omega)).other (q := ⟨w.heap.size + 1, 1, none⟩) (.slice x0 P.f1.length y0) (by dsimp only; omega)).other (q := ⟨w.heap.size + 1, 2, none⟩) (.slice x1 P.f2.length y1) (by dsimp only; omega)).other (q := ⟨w.heap.size + 1, 3, none⟩) (.slice x2 P.f3.length y2) (by dsimp only; omega)
                have hF := (((hB.setCell (p := ⟨w.heap.size + 1, 0, none⟩) (by dsimp only; omega) (.int .i64 P.f0)).setCell (p := ⟨w.heap.size + 1, 1, none⟩) (by dsimp only; omega) (.slice x0 P.f1.length y0)).setCell (p := ⟨w.heap.size + 1, 2, none⟩) (by dsimp only; omega) (.slice x1 P.f2.length y1)).setCell (p := ⟨w.heap.size + 1, 3, none⟩) (by dsimp only; omega) (.slice x2 P.f3.length y2)
                go_simp
                obtain ⟨VF, hVF⟩ : ∃ VF, (((V8_13.setCell ⟨w.heap.size + 1, 0, none⟩ (.int .i64 P.f0)).setCell ⟨w.heap.size + 1, 1, none⟩ (.slice x0 P.f1.length y0)).setCell ⟨w.heap.size + 1, 2, none⟩ (.slice x1 P.f2.length y1)).setCell ⟨w.heap.size + 1, 3, none⟩ (.slice x2 P.f3.length y2) = VF := ⟨_, rfl⟩
                rw [hVF] at qF pA hF t0 t1 t2 ⊢
                have s9 : VF.cell? ⟨w.heap.size, 0, none⟩ = some (.int .i64 P.f0) ∧ VF.cell? ⟨w.heap.size, 1, none⟩ = some (.slice a1 P.f1.length c1) ∧ VF.cell? ⟨w.heap.size, 2, none⟩ = some (.slice a2 P.f2.length c2) ∧ VF.cell? ⟨w.heap.size, 3, none⟩ = some (.slice a3 P.f3.length c3) := ⟨pA.at rfl, pA.at rfl, pA.at rfl, pA.at rfl⟩
                refine hK.out _ _ s9 (fun hHeld => ?_)
                clear hK K
                try simp only [Act.put, List.setIfInBounds_toArray, List.set_cons_zero, List.set_cons_succ]
                refine wpAnyH_done (by kernel_rfl) ?_ _
                go_wp2_with fail
                go_meet
                case rel => exact ⟨_, rfl, rfl, x0, y0, p0, x1, y1, p1, x2, y2, p2, qF, t0, t1, t2, pb0, pb1, pb2, n0_1, n0_2, n1_2, hF⟩
        case q3_10 =>
          obtain ⟨V3_10, hV⟩ : ∃ W, V2_5.alloc (.cells #[] 3) = W := ⟨_, rfl⟩
          have hA : Below V2_5.heap.size V2_5 V3_10 := by rw [← hV]; exact (Below.refl _ _).alloc (Nat.le_refl _) _
          obtain ⟨g2, hg2⟩ : ∃ g, V2_5.heap.size = g := ⟨_, rfl⟩
          have e2 : Blk 3 g2 [] V3_10 := by rw [← hV, ← hg2]; exact Blk.new _ [] _
          have gb2 : w.heap.size + 2 ≤ g2 := by rw [← hg2]; exact hsz
          have m0_2 : p0 ≠ g2 := by have := r0.lt; omega
          have hgl2 : g2 ≤ V2_5.heap.size := by rw [← hg2]; exact Nat.le_refl _
          go_simp
          try rw [hV]
          try rw [hg2]
          have r0 := r0.below hA
          have qA := qA.below hA
          have qR := qR.below hA
          have hr0 := hr0.below hA
          have hr1 := hr1.below hA
          have hr2 := hr2.below hA
          have hB := hB.trans (hA.mono hB.size)
          have hsz : w.heap.size + 2 ≤ V3_10.heap.size := Nat.le_trans hsz hA.size
          clear hA hV hg2 hgl2
          have s9 := (show V3_10.cell? ⟨w.heap.size, 0, none⟩ = some (.int .i64 P.f0) ∧ V3_10.cell? ⟨w.heap.size, 1, none⟩ = some (.slice a1 P.f1.length c1) ∧ V3_10.cell? ⟨w.heap.size, 2, none⟩ = some (.slice a2 P.f2.length c2) ∧ V3_10.cell? ⟨w.heap.size, 3, none⟩ = some (.slice a3 P.f3.length c3) from ⟨qA.at rfl, qA.at rfl, qA.at rfl, qA.at rfl⟩)
          refine hK.out _ _ s9 (fun hHeld => ?_)
          clear hK K
          try simp only [Act.put, List.setIfInBounds_toArray, List.set_cons_zero, List.set_cons_succ]
          refine wpAnyH_ready (rs := [6]) (by kernel_rfl) (by simp) ?_
          refine (AllReadyH.cons (List.getElem?_toArray.trans rfl) (fun K hK => ?q9_6) AllReadyH.nil)
          case q9_6 =>
            obtain ⟨V9_6, hV⟩ : ∃ W, V3_10.alloc (.cells #[] 3) = W := ⟨_, rfl⟩
            have hA : Below V3_10.heap.size V3_10 V9_6 := by rw [← hV]; exact (Below.refl _ _).alloc (Nat.le_refl _) _
            obtain ⟨g1, hg1⟩ : ∃ g, V3_10.heap.size = g := ⟨_, rfl⟩
            have e1 : Blk 3 g1 [] V9_6 := by rw [← hV, ← hg1]; exact Blk.new _ [] _
            have gb1 : w.heap.size + 2 ≤ g1 := by rw [← hg1]; exact hsz
            have m2_1 : g2 ≠ g1 := by have := e2.lt; omega
            have m0_1 : p0 ≠ g1 := by have := r0.lt; omega
            have hgl1 : g1 ≤ V3_10.heap.size := by rw [← hg1]; exact Nat.le_refl _
            go_simp
            try rw [hV]
            try rw [hg1]
            have e2 := e2.below hA
            have r0 := r0.below hA
            have qA := qA.below hA
            have qR := qR.below hA
            have hr0 := hr0.below hA
            have hr1 := hr1.below hA
            have hr2 := hr2.below hA
            have hB := hB.trans (hA.mono hB.size)
            have hsz : w.heap.size + 2 ≤ V9_6.heap.size := Nat.le_trans hsz hA.size
            clear hA hV hg1 hgl1
            have s9 := (show V9_6.cell? ⟨w.heap.size, 0, none⟩ = some (.int .i64 P.f0) ∧ V9_6.cell? ⟨w.heap.size, 1, none⟩ = some (.slice a1 P.f1.length c1) ∧ V9_6.cell? ⟨w.heap.size, 2, none⟩ = some (.slice a2 P.f2.length c2) ∧ V9_6.cell? ⟨w.heap.size, 3, none⟩ = some (.slice a3 P.f3.length c3) from ⟨qA.at rfl, qA.at rfl, qA.at rfl, qA.at rfl⟩)
            refine hK.out _ _ s9 (fun hHeld => ?_)
            clear hK K
            try simp only [Act.put, List.setIfInBounds_toArray, List.set_cons_zero, List.set_cons_succ]
            refine wpAnyH_ready (rs := [9]) (by kernel_rfl) (by simp) ?_
            refine (AllReadyH.cons (List.getElem?_toArray.trans rfl) (fun K hK => ?q10_9) AllReadyH.nil)
            case q10_9 =>
              refine step_copy rfl _ _ 25 rfl 3 i0 _ 8 Try.underlying25 hi0 hz0 hz1 hz2 rfl (by omega) g1 e1 rfl 0 w.heap.size (a2) (P.f2.length) c2 (P.f2) rfl hr1 (by omega) ?_
              intro x1 y1 p1 V10_9 r1 hp hz hk hb
              have hA := hb (w.heap.size + 2) gb1
              have pb1 : w.heap.size + 2 ≤ p1 := by rcases hp with h | h <;> omega
              have m1_2 : p1 ≠ g2 := by have := e2.lt; omega
              have n0_1 : p0 ≠ p1 := by have := r0.lt; omega
              have e2 : Blk 3 g2 [] V10_9 := (hk g2 e2.lt (by omega)).trans e2
              have r0 := r0.keep (hk p0 r0.lt (by omega))
              have qA := qA.under hA (by omega)
              have qR := qR.under hA (by omega)
              have hr0 := hr0.under hA (by omega)
              have hr1 := hr1.under hA (by omega)
              have hr2 := hr2.under hA (by omega)
              have hB := hB.trans (hA.mono (by omega))
              have hsz : w.heap.size + 2 ≤ V10_9.heap.size := Nat.le_trans hsz hz
              clear hA hk hb hz hp
              have s9 := (show V10_9.cell? ⟨w.heap.size, 0, none⟩ = some (.int .i64 P.f0) ∧ V10_9.cell? ⟨w.heap.size, 1, none⟩ = some (.slice a1 P.f1.length c1) ∧ V10_9.cell? ⟨w.heap.size, 2, none⟩ = some (.slice a2 P.f2.length c2) ∧ V10_9.cell? ⟨w.heap.size, 3, none⟩ = some (.slice a3 P.f3.length c3) from ⟨qA.at rfl, qA.at rfl, qA.at rfl, qA.at rfl⟩)
              refine hK.out _ _ s9 (fun hHeld => ?_)
              clear hK K
              try simp only [Act.put, List.setIfInBounds_toArray, List.set_cons_zero, List.set_cons_succ]
              refine wpAnyH_ready (rs := [13]) (by kernel_rfl) (by simp) ?_
              refine (AllReadyH.cons (List.getElem?_toArray.trans rfl) (fun K hK => ?q11_13) AllReadyH.nil)
              case q11_13 =>
                refine step_copy rfl _ _ 25 rfl 3 i0 _ 8 Try.underlying25 hi0 hz0 hz1 hz2 rfl (by omega) g2 e2 rfl 0 w.heap.size (a3) (P.f3.length) c3 (P.f3) rfl hr2 (by omega) ?_
                intro x2 y2 p2 V11_13 r2 hp hz hk hb
                have hA := hb (w.heap.size + 2) gb2
                have pb2 : w.heap.size + 2 ≤ p2 := by rcases hp with h | h <;> omega
                have n0_2 : p0 ≠ p2 := by have := r0.lt; omega
                have n1_2 : p1 ≠ p2 := by have := r1.lt; omega
                have r0 := r0.keep (hk p0 r0.lt (by omega))
                have r1 := r1.keep (hk p1 r1.lt (by omega))
                have qA := qA.under hA (by omega)
                have qR := qR.under hA (by omega)
                have hr0 := hr0.under hA (by omega)
                have hr1 := hr1.under hA (by omega)
                have hr2 := hr2.under hA (by omega)
                have hB := hB.trans (hA.mono (by omega))
                have hsz : w.heap.size + 2 ≤ V11_13.heap.size := Nat.le_trans hsz hz
                clear hA hk hb hz hp
                have s9 := (show V11_13.cell? ⟨w.heap.size, 0, none⟩ = some (.int .i64 P.f0) ∧ V11_13.cell? ⟨w.heap.size, 1, none⟩ = some (.slice a1 P.f1.length c1) ∧ V11_13.cell? ⟨w.heap.size, 2, none⟩ = some (.slice a2 P.f2.length c2) ∧ V11_13.cell? ⟨w.heap.size, 3, none⟩ = some (.slice a3 P.f3.length c3) from ⟨qA.at rfl, qA.at rfl, qA.at rfl, qA.at rfl⟩)
                refine hK.out _ _ s9 (fun hHeld => ?_)
                clear hK K
                try simp only [Act.put, List.setIfInBounds_toArray, List.set_cons_zero, List.set_cons_succ]
                refine wpAnyH_take (i := 14) (v := ?vb3) (List.getElem?_toArray.trans rfl) (by kernel_rfl) (by kernel_rfl) (by kernel_rfl) (fun _ _ _ h => h) (Or.inl ⟨by rfl, ?yb3⟩) (by assumption) ?rb3
                case yb3 => (intro w hSw; (try dsimp only at hSw); go_simp; try with_reducible rfl)
                try simp only [Act.put, List.setIfInBounds_toArray, List.set_cons_zero, List.set_cons_succ]
                refine wpAnyH_ready (rs := [15]) (by kernel_rfl) (by simp) ?_
                refine AllReadyH.cons (List.getElem?_toArray.trans rfl) (fun K hK => ?_) AllReadyH.nil
                have z0 := qR.at (x := 0) rfl
                have z1 := qR.at (x := 1) rfl
                have z2 := qR.at (x := 2) rfl
                have z3 := qR.at (x := 3) rfl
                have d0 := qR.free 0
                have d1 := qR.free 1
                have d2 := qR.free 2
                have d3 := qR.free 3
                have qF := (((qR.set 0 (.int .i64 P.f0)).set 1 (.slice x0 P.f1.length y0)).set 2 (.slice x1 P.f2.length y1)).set 3 (.slice x2 P.f3.length y2)
                simp only [List.set_cons_zero, List.set_cons_succ] at qF
                have pA := (((qA.other (a := ⟨w.heap.size + 1, 0, none⟩) (.int .i64 P.f0) (by dsimp only; omega)).other (a := ⟨w.heap.size + 1, 1, none⟩) (.slice x0 P.f1.length y0) (by dsimp only; omega)).other (a := ⟨w.heap.size + 1, 2, none⟩) (.slice x1 P.f2.length y1) (by dsimp only; omega)).other (a := ⟨w.heap.size + 1, 3, none⟩) (.slice x2 P.f3.length y2) (by dsimp only; omega)
                have t0 := (((r0.other (q := ⟨w.heap.size + 1, 0, none⟩) (.int .i64 P.f0) (by dsimp only; omega)).other (q := ⟨w.heap.size + 1, 1, none⟩) (.slice x0 P.f1.length y0) (by dsimp only; omega)).other (q := ⟨w.heap.size + 1, 2, none⟩) (.slice x1 P.f2.length y1) (by dsimp only; omega)).other (q := ⟨w.heap.size + 1, 3, none⟩) (.slice x2 P.f3.length y2) (by dsimp only; omega)
                have t1 := (((r1.other (q := ⟨w.heap.size + 1, 0, none⟩) (.int .i64 P.f0) (by dsimp only; omega)).other (q := ⟨w.heap.size + 1, 1, none⟩) (.slice x0 P.f1.length y0) (by dsimp only; omega)).other (q := ⟨w.heap.size + 1, 2, none⟩) (.slice x1 P.f2.length y1) (by dsimp only; omega)).other (q := ⟨w.heap.size + 1, 3, none⟩) (.slice x2 P.f3.length y2) (by dsimp only; omega)
                have t2 := (((r2.other (q := ⟨w.heap.size + 1, 0, none⟩) (.int .i64 P.f0) (by dsimp only; omega)).other (q := ⟨w.heap.size + 1, 1, none⟩) (.slice x0 P.f1.length y0) (by dsimp only; omega)).other (q := ⟨w.heap.size + 1, 2, none⟩) (.slice x1 P.f2.length y1) (by dsimp only; omega)).other (q := ⟨w.heap.size + 1, 3, none⟩) (.slice x2 P.f3.length y2) (by dsimp only; omega)
                have hF := (((hB.setCell (p := ⟨w.heap.size + 1, 0, none⟩) (by dsimp only; omega) (.int .i64 P.f0)).setCell (p := ⟨w.heap.size + 1, 1, none⟩) (by dsimp only; omega) (.slice x0 P.f1.length y0)).setCell (p := ⟨w.heap.size + 1, 2, none⟩) (by dsimp only; omega) (.slice x1 P.f2.length y1)).setCell (p := ⟨w.heap.size + 1, 3, none⟩) (by dsimp only; omega) (.slice x2 P.f3.length y2)
                go_simp
                obtain ⟨VF, hVF⟩ : ∃ VF, (((V11_13.setCell ⟨w.heap.size + 1, 0, none⟩ (.int .i64 P.f0)).setCell ⟨w.heap.size + 1, 1, none⟩ (.slice x0 P.f1.length y0)).setCell ⟨w.heap.size + 1, 2, none⟩ (.slice x1 P.f2.length y1)).setCell ⟨w.heap.size + 1, 3, none⟩ (.slice x2 P.f3.length y2) = VF := ⟨_, rfl⟩
                rw [hVF] at qF pA hF t0 t1 t2 ⊢
                have s9 : VF.cell? ⟨w.heap.size, 0, none⟩ = some (.int .i64 P.f0) ∧ VF.cell? ⟨w.heap.size, 1, none⟩ = some (.slice a1 P.f1.length c1) ∧ VF.cell? ⟨w.heap.size, 2, none⟩ = some (.slice a2 P.f2.length c2) ∧ VF.cell? ⟨w.heap.size, 3, none⟩ = some (.slice a3 P.f3.length c3) := ⟨pA.at rfl, pA.at rfl, pA.at rfl, pA.at rfl⟩
                refine hK.out _ _ s9 (fun hHeld => ?_)
                clear hK K
                try simp only [Act.put, List.setIfInBounds_toArray, List.set_cons_zero, List.set_cons_succ]
                refine wpAnyH_done (by kernel_rfl) ?_ _
                go_wp2_with fail
                go_meet
                case rel => exact ⟨_, rfl, rfl, x0, y0, p0, x1, y1, p1, x2, y2, p2, qF, t0, t1, t2, pb0, pb1, pb2, n0_1, n0_2, n1_2, hF⟩
      case q2_6 =>
        obtain ⟨V2_6, hV⟩ : ∃ W, V1_2.alloc (.cells #[] 3) = W := ⟨_, rfl⟩
        have hA : Below V1_2.heap.size V1_2 V2_6 := by rw [← hV]; exact (Below.refl _ _).alloc (Nat.le_refl _) _
        obtain ⟨g1, hg1⟩ : ∃ g, V1_2.heap.size = g := ⟨_, rfl⟩
        have e1 : Blk 3 g1 [] V2_6 := by rw [← hV, ← hg1]; exact Blk.new _ [] _
        have gb1 : w.heap.size + 2 ≤ g1 := by rw [← hg1]; exact hsz
        have m0_1 : g0 ≠ g1 := by have := e0.lt; omega
        have hgl1 : g1 ≤ V1_2.heap.size := by rw [← hg1]; exact Nat.le_refl _
        go_simp
        try rw [hV]
        try rw [hg1]
        have e0 := e0.below hA
        have qA := qA.below hA
        have qR := qR.below hA
        have hr0 := hr0.below hA
        have hr1 := hr1.below hA
        have hr2 := hr2.below hA
        have hB := hB.trans (hA.mono hB.size)
        have hsz : w.heap.size + 2 ≤ V2_6.heap.size := Nat.le_trans hsz hA.size
        clear hA hV hg1 hgl1
        have s9 := (show V2_6.cell? ⟨w.heap.size, 0, none⟩ = some (.int .i64 P.f0) ∧ V2_6.cell? ⟨w.heap.size, 1, none⟩ = some (.slice a1 P.f1.length c1) ∧ V2_6.cell? ⟨w.heap.size, 2, none⟩ = some (.slice a2 P.f2.length c2) ∧ V2_6.cell? ⟨w.heap.size, 3, none⟩ = some (.slice a3 P.f3.length c3) from ⟨qA.at rfl, qA.at rfl, qA.at rfl, qA.at rfl⟩)
        refine hK.out _ _ s9 (fun hHeld => ?_)
        clear hK K
        try simp only [Act.put, List.setIfInBounds_toArray, List.set_cons_zero, List.set_cons_succ]
        refine wpAnyH_ready (rs := [5, 10]) (by kernel_rfl) (by simp) ?_
        refine (AllReadyH.cons (List.getElem?_toArray.trans rfl) (fun K hK => ?q12_5) (AllReadyH.cons (List.getElem?_toArray.trans rfl) (fun K hK => ?q12_10) AllReadyH.nil))
        case q12_5 =>
          refine step_copy rfl _ _ 25 rfl 3 i0 _ 8 Try.underlying25 hi0 hz0 hz1 hz2 rfl (by omega) g0 e0 rfl 0 w.heap.size (a1) (P.f1.length) c1 (P.f1) rfl hr0 (by omega) ?_
          intro x0 y0 p0 V12_5 r0 hp hz hk hb
          have hA := hb (w.heap.size + 2) gb0
          have pb0 : w.heap.size + 2 ≤ p0 := by rcases hp with h | h <;> omega
          have m0_1 : p0 ≠ g1 := by have := e1.lt; omega
          have e1 : Blk 3 g1 [] V12_5 := (hk g1 e1.lt (by omega)).trans e1
          have qA := qA.under hA (by omega)
          have qR := qR.under hA (by omega)
          have hr0 := hr0.under hA (by omega)
          have hr1 := hr1.under hA (by omega)
          have hr2 := hr2.under hA (by omega)
          have hB := hB.trans (hA.mono (by omega))
          have hsz : w.heap.size + 2 ≤ V12_5.heap.size := Nat.le_trans hsz hz
          clear hA hk hb hz hp
          have s9 := (show V12_5.cell? ⟨w.heap.size, 0, none⟩ = some (.int .i64 P.f0) ∧ V12_5.cell? ⟨w.heap.size, 1, none⟩ = some (.slice a1 P.f1.length c1) ∧ V12_5.cell? ⟨w.heap.size, 2, none⟩ = some (.slice a2 P.f2.length c2) ∧ V12_5.cell? ⟨w.heap.size, 3, none⟩ = some (.slice a3 P.f3.length c3) from ⟨qA.at rfl, qA.at rfl, qA.at rfl, qA.at rfl⟩)
          refine hK.out _ _ s9 (fun hHeld => ?_)
          clear hK K
          try simp only [Act.put, List.setIfInBounds_toArray, List.set_cons_zero, List.set_cons_succ]
          refine wpAnyH_ready (rs := [9, 10]) (by kernel_rfl) (by simp) ?_
          refine (AllReadyH.cons (List.getElem?_toArray.trans rfl) (fun K hK => ?q13_9) (AllReadyH.cons (List.getElem?_toArray.trans rfl) (fun K hK => ?q13_10) AllReadyH.nil))
          case q13_9 =>
            refine step_copy rfl _ _ 25 rfl 3 i0 _ 8 Try.underlying25 hi0 hz0 hz1 hz2 rfl (by omega) g1 e1 rfl 0 w.heap.size (a2) (P.f2.length) c2 (P.f2) rfl hr1 (by omega) ?_
            intro x1 y1 p1 V13_9 r1 hp hz hk hb
            have hA := hb (w.heap.size + 2) gb1
            have pb1 : w.heap.size + 2 ≤ p1 := by rcases hp with h | h <;> omega
            have n0_1 : p0 ≠ p1 := by have := r0.lt; omega
            have r0 := r0.keep (hk p0 r0.lt (by omega))
            have qA := qA.under hA (by omega)
            have qR := qR.under hA (by omega)
            have hr0 := hr0.under hA (by omega)
            have hr1 := hr1.under hA (by omega)
            have hr2 := hr2.under hA (by omega)
            have hB := hB.trans (hA.mono (by omega))
            have hsz : w.heap.size + 2 ≤ V13_9.heap.size := Nat.le_trans hsz hz
            clear hA hk hb hz hp
            have s9 := (show V13_9.cell? ⟨w.heap.size, 0, none⟩ = some (.int .i64 P.f0) ∧ V13_9.cell? ⟨w.heap.size, 1, none⟩ = some (.slice a1 P.f1.length c1) ∧ V13_9.cell? ⟨w.heap.size, 2, none⟩ = some (.slice a2 P.f2.length c2) ∧ V13_9.cell? ⟨w.heap.size, 3, none⟩ = some (.slice a3 P.f3.length c3) from ⟨qA.at rfl, qA.at rfl, qA.at rfl, qA.at rfl⟩)
            refine hK.out _ _ s9 (fun hHeld => ?_)
            clear hK K
            try simp only [Act.put, List.setIfInBounds_toArray, List.set_cons_zero, List.set_cons_succ]
            refine wpAnyH_ready (rs := [10]) (by kernel_rfl) (by simp) ?_
            refine (AllReadyH.cons (List.getElem?_toArray.trans rfl) (fun K hK => ?q14_10) AllReadyH.nil)
            case q14_10 =>
              obtain ⟨V14_10, hV⟩ : ∃ W, V13_9.alloc (.cells #[] 3) = W := ⟨_, rfl⟩
              have hA : Below V13_9.heap.size V13_9 V14_10 := by rw [← hV]; exact (Below.refl _ _).alloc (Nat.le_refl _) _
              obtain ⟨g2, hg2⟩ : ∃ g, V13_9.heap.size = g := ⟨_, rfl⟩
              have e2 : Blk 3 g2 [] V14_10 := by rw [← hV, ← hg2]; exact Blk.new _ [] _
              have gb2 : w.heap.size + 2 ≤ g2 := by rw [← hg2]; exact hsz
              have m0_2 : p0 ≠ g2 := by have := r0.lt; omega
              have m1_2 : p1 ≠ g2 := by have := r1.lt; omega
              have hgl2 : g2 ≤ V13_9.heap.size := by rw [← hg2]; exact Nat.le_refl _
              go_simp
              try rw [hV]
              try rw [hg2]
              have r0 := r0.below hA
              have r1 := r1.below hA
              have qA := qA.below hA
              have qR := qR.below hA
              have hr0 := hr0.below hA
              have hr1 := hr1.below hA
              have hr2 := hr2.below hA
              have hB := hB.trans (hA.mono hB.size)
              have hsz : w.heap.size + 2 ≤ V14_10.heap.size := Nat.le_trans hsz hA.size
              clear hA hV hg2 hgl2
              have s9 := (show V14_10.cell? ⟨w.heap.size, 0, none⟩ = some (.int .i64 P.f0) ∧ V14_10.cell? ⟨w.heap.size, 1, none⟩ = some (.slice a1 P.f1.length c1) ∧ V14_10.cell? ⟨w.heap.size, 2, none⟩ = some (.slice a2 P.f2.length c2) ∧ V14_10.cell? ⟨w.heap.size, 3, none⟩ = some (.slice a3 P.f3.length c3) from ⟨qA.at rfl, qA.at rfl, qA.at rfl, qA.at rfl⟩)
              refine hK.out _ _ s9 (fun hHeld => ?_)
              clear hK K
              try simp only [Act.put, List.setIfInBounds_toArray, List.set_cons_zero, List.set_cons_succ]
              refine wpAnyH_ready (rs := [13]) (by kernel_rfl) (by simp) ?_
              refine (AllReadyH.cons (List.getElem?_toArray.trans rfl) (fun K hK => ?q15_13) AllReadyH.nil)
              case q15_13 =>
                refine step_copy rfl _ _ 25 rfl 3 i0 _ 8 Try.underlying25 hi0 hz0 hz1 hz2 rfl (by omega) g2 e2 rfl 0 w.heap.size (a3) (P.f3.length) c3 (P.f3) rfl hr2 (by omega) ?_
                intro x2 y2 p2 V15_13 r2 hp hz hk hb
                have hA := hb (w.heap.size + 2) gb2
                have pb2 : w.heap.size + 2 ≤ p2 := by rcases hp with h | h <;> omega
                have n0_2 : p0 ≠ p2 := by have := r0.lt; omega
                have n1_2 : p1 ≠ p2 := by have := r1.lt; omega
                have r0 := r0.keep (hk p0 r0.lt (by omega))
                have r1 := r1.keep (hk p1 r1.lt (by omega))
                have qA := qA.under hA (by omega)
                have qR := qR.under hA (by omega)
                have hr0 := hr0.under hA (by omega)
                have hr1 := hr1.under hA (by omega)
                have hr2 := hr2.under hA (by omega)
                have hB := hB.trans (hA.mono (by omega))
                have hsz : w.heap.size + 2 ≤ V15_13.heap.size := Nat.le_trans hsz hz
                clear hA hk hb hz hp
                have s9 := (show V15_13.cell? ⟨w.heap.size, 0, none⟩ = some (.int .i64 P.f0) ∧ V15_13.cell? ⟨w.heap.size, 1, none⟩ = some (.slice a1 P.f1.length c1) ∧ V15_13.cell? ⟨w.heap.size, 2, none⟩ = some (.slice a2 P.f2.length c2) ∧ V15_13.cell? ⟨w.heap.size, 3, none⟩ = some (.slice a3 P.f3.length c3) from ⟨qA.at rfl, qA.at rfl, qA.at rfl, qA.at rfl⟩)
                refine hK.out _ _ s9 (fun hHeld => ?_)
                clear hK K
                try simp only [Act.put, List.setIfInBounds_toArray, List.set_cons_zero, List.set_cons_succ]
                refine wpAnyH_take (i := 14) (v := ?vb4) (List.getElem?_toArray.trans rfl) (by kernel_rfl) (by kernel_rfl) (by kernel_rfl) (fun _ _ _ h => h) (Or.inl ⟨by rfl, ?yb4⟩) (by assumption) ?rb4
                case yb4 => (intro w hSw; (try dsimp only at hSw); go_simp; try with_reducible rfl)
                try simp only [Act.put, List.setIfInBounds_toArray, List.set_cons_zero, List.set_cons_succ]
                refine wpAnyH_ready (rs := [15]) (by kernel_rfl) (by simp) ?_
                refine AllReadyH.cons (List.getElem?_toArray.trans rfl) (fun K hK => ?_) AllReadyH.nil
                have z0 := qR.at (x := 0) rfl
                have z1 := qR.at (x := 1) rfl
                have z2 := qR.at (x := 2) rfl
                have z3 := qR.at (x := 3) rfl
                have d0 := qR.free 0
                have d1 := qR.free 1
                have d2 := qR.free 2
                have d3 := qR.free 3
                have qF := (((qR.set 0 (.int .i64 P.f0)).set 1 (.slice x0 P.f1.length y0)).set 2 (.slice x1 P.f2.length y1)).set 3 (.slice x2 P.f3.length y2)
                simp only [List.set_cons_zero, List.set_cons_succ] at qF
                have pA := (((qA.other (a := ⟨w.heap.size + 1, 0, none⟩) (.int .i64 P.f0) (by dsimp only; omega)).other (a := ⟨w.heap.size + 1, 1, none⟩) (.slice x0 P.f1.length y0) (by dsimp only; omega)).other (a := ⟨w.heap.size + 1, 2, none⟩) (.slice x1 P.f2.length y1) (by dsimp only; omega)).other (a := ⟨w.heap.size + 1, 3, none⟩) (.slice x2 P.f3.length y2) (by dsimp only; omega)
                have t0 := (((r0.other (q := ⟨w.heap.size + 1, 0, none⟩) (.int .i64 P.f0) (by dsimp only; omega)).other (q := ⟨w.heap.size + 1, 1, none⟩) (.slice x0 P.f1.length y0) (by dsimp only; omega)).other (q := ⟨w.heap.size + 1, 2, none⟩) (.slice x1 P.f2.length y1) (by dsimp only; omega)).other (q := ⟨w.heap.size + 1, 3, none⟩) (.slice x2 P.f3.length y2) (by dsimp only; omega)
                have t1 := (((r1.other (q := ⟨w.heap.size + 1, 0, none⟩) (.int .i64 P.f0) (by dsimp only; omega)).other (q := ⟨w.heap.size + 1, 1, none⟩) (.slice x0 P.f1.length y0) (by dsimp only; omega)).other (q := ⟨w.heap.size + 1, 2, none⟩) (.slice x1 P.f2.length y1) (by dsimp only; omega)).other (q := ⟨w.heap.size + 1, 3, none⟩) (.slice x2 P.f3.length y2) (by dsimp only; omega)
                have t2 := (((r2.other (q := ⟨w.heap.size + 1, 0, none⟩) (.int .i64 P.f0) (by dsimp only; omega)).other (q := ⟨w.heap.size + 1, 1, none⟩) (.slice x0 P.f1.length y0) (by dsimp only; omega)).other (q := ⟨w.heap.size + 1, 2, none⟩) (.slice x1 P.f2.length y1) (by dsimp only; omega)).other (q := ⟨w.heap.size + 1, 3, none⟩) (.slice x2 P.f3.length y2) (by dsimp only; omega)
                have hF := (((hB.setCell (p := ⟨w.heap.size + 1, 0, none⟩) (by dsimp only; omega) (.int .i64 P.f0)).setCell (p := ⟨w.heap.size + 1, 1, none⟩) (by dsimp only; omega) (.slice x0 P.f1.length y0)).setCell (p := ⟨w.heap.size + 1, 2, none⟩) (by dsimp only; omega) (.slice x1 P.f2.length y1)).setCell (p := ⟨w.heap.size + 1, 3, none⟩) (by dsimp only; omega) (.slice x2 P.f3.length y2)
                go_simp
                obtain ⟨VF, hVF⟩ : ∃ VF, (((V15_13.setCell ⟨w.heap.size + 1, 0, none⟩ (.int .i64 P.f0)).setCell ⟨w.heap.size + 1, 1, none⟩ (.slice x0 P.f1.length y0)).setCell ⟨w.heap.size + 1, 2, none⟩ (.slice x1 P.f2.length y1)).setCell ⟨w.heap.size + 1, 3, none⟩ (.slice x2 P.f3.length y2) = VF := ⟨_, rfl⟩
                rw [hVF] at qF pA hF t0 t1 t2 ⊢
                have s9 : VF.cell? ⟨w.heap.size, 0, none⟩ = some (.int .i64 P.f0) ∧ VF.cell? ⟨w.heap.size, 1, none⟩ = some (.slice a1 P.f1.length c1) ∧ VF.cell? ⟨w.heap.size, 2, none⟩ = some (.slice a2 P.f2.length c2) ∧ VF.cell? ⟨w.heap.size, 3, none⟩ = some (.slice a3 P.f3.length c3) := ⟨pA.at rfl, pA.at rfl, pA.at rfl, pA.at rfl⟩
                refine hK.out _ _ s9 (fun hHeld => ?_)
                clear hK K
                try simp only [Act.put, List.setIfInBounds_toArray, List.set_cons_zero, List.set_cons_succ]
                refine wpAnyH_done (by kernel_rfl) ?_ _
                go_wp2_with fail
                go_meet
                case rel => exact ⟨_, rfl, rfl, x0, y0, p0, x1, y1, p1, x2, y2, p2, qF, t0, t1, t2, pb0, pb1, pb2, n0_1, n0_2, n1_2, hF⟩
          case q13_10 =>
            obtain ⟨V13_10, hV⟩ : ∃ W, V12_5.alloc (.cells #[] 3) = W := ⟨_, rfl⟩
            have hA : Below V12_5.heap.size V12_5 V13_10 := by rw [← hV]; exact (Below.refl _ _).alloc (Nat.le_refl _) _
            obtain ⟨g2, hg2⟩ : ∃ g, V12_5.heap.size = g := ⟨_, rfl⟩
            have e2 : Blk 3 g2 [] V13_10 := by rw [← hV, ← hg2]; exact Blk.new _ [] _
            have gb2 : w.heap.size + 2 ≤ g2 := by rw [← hg2]; exact hsz
            have m1_2 : g1 ≠ g2 := by have := e1.lt; omega
            have m0_2 : p0 ≠ g2 := by have := r0.lt; omega
            have hgl2 : g2 ≤ V12_5.heap.size := by rw [← hg2]; exact Nat.le_refl _
            go_simp
            try rw [hV]
            try rw [hg2]
            have e1 := e1.below hA
            have r0 := r0.below hA
            have qA := qA.below hA
            have qR := qR.below hA
            have hr0 := hr0.below hA
            have hr1 := hr1.below hA
            have hr2 := hr2.below hA
            have hB := hB.trans (hA.mono hB.size)
            have hsz : w.heap.size + 2 ≤ V13_10.heap.size := Nat.le_trans hsz hA.size
            clear hA hV hg2 hgl2
            have s9 := (show V13_10.cell? ⟨w.heap.size, 0, none⟩ = some (.int .i64 P.f0) ∧ V13_10.cell? ⟨w.heap.size, 1, none⟩ = some (.slice a1 P.f1.length c1) ∧ V13_10.cell? ⟨w.heap.size, 2, none⟩ = some (.slice a2 P.f2.length c2) ∧ V13_10.cell? ⟨w.heap.size, 3, none⟩ = some (.slice a3 P.f3.length c3) from ⟨qA.at rfl, qA.at rfl, qA.at rfl, qA.at rfl⟩)
            refine hK.out _ _ s9 (fun hHeld => ?_)
            clear hK K
            try simp only [Act.put, List.setIfInBounds_toArray, List.set_cons_zero, List.set_cons_succ]
            refine wpAnyH_ready (rs := [9]) (by kernel_rfl) (by simp) ?_
            refine (AllReadyH.cons (List.getElem?_toArray.trans rfl) (fun K hK => ?q16_9) AllReadyH.nil)
            case q16_9 =>
              refine step_copy rfl _ _ 25 rfl 3 i0 _ 8 Try.underlying25 hi0 hz0 hz1 hz2 rfl (by omega) g1 e1 rfl 0 w.heap.size (a2) (P.f2.length) c2 (P.f2) rfl hr1 (by omega) ?_
              intro x1 y1 p1 V16_9 r1 hp hz hk hb
              have hA := hb (w.heap.size + 2) gb1
              have pb1 : w.heap.size + 2 ≤ p1 := by rcases hp with h | h <;> omega
              have m1_2 : p1 ≠ g2 := by have := e2.lt; omega
              have n0_1 : p0 ≠ p1 := by have := r0.lt; omega
              have e2 : Blk 3 g2 [] V16_9 := (hk g2 e2.lt (by omega)).trans e2
              have r0 := r0.keep (hk p0 r0.lt (by omega))
              have qA := qA.under hA (by omega)
              have qR := qR.under hA (by omega)
              have hr0 := hr0.under hA (by omega)
              have hr1 := hr1.under hA (by omega)
              have hr2 := hr2.under hA (by omega)
              have hB := hB.trans (hA.mono (by omega))
              have hsz : w.heap.size + 2 ≤ V16_9.heap.size := Nat.le_trans hsz hz
              clear hA hk hb hz hp
              have s9 := (show V16_9.cell? ⟨w.heap.size, 0, none⟩ = some (.int .i64 P.f0) ∧ V16_9.cell? ⟨w.heap.size, 1, none⟩ = some (.slice a1 P.f1.length c1) ∧ V16_9.cell? ⟨w.heap.size, 2, none⟩ = some (.slice a2 P.f2.length c2) ∧ V16_9.cell? ⟨w.heap.size, 3, none⟩ = some (.slice a3 P.f3.length c3) from ⟨qA.at rfl, qA.at rfl, qA.at rfl, qA.at rfl⟩)
              refine hK.out _ _ s9 (fun hHeld => ?_)
              clear hK K
              try simp only [Act.put, List.setIfInBounds_toArray, List.set_cons_zero, List.set_cons_succ]
              refine wpAnyH_ready (rs := [13]) (by kernel_rfl) (by simp) ?_
              refine (AllReadyH.cons (List.getElem?_toArray.trans rfl) (fun K hK => ?q17_13) AllReadyH.nil)
              case q17_13 =>
                refine step_copy rfl _ _ 25 rfl 3 i0 _ 8 Try.underlying25 hi0 hz0 hz1 hz2 rfl (by omega) g2 e2 rfl 0 w.heap.size (a3) (P.f3.length) c3 (P.f3) rfl hr2 (by omega) ?_
                intro x2 y2 p2 V17_13 r2 hp hz hk hb
                have hA := hb (w.heap.size + 2) gb2
                have pb2 : w.heap.size + 2 ≤ p2 := by rcases hp with h | h <;> omega
                have n0_2 : p0 ≠ p2 := by have := r0.lt; omega
                have n1_2 : p1 ≠ p2 := by have := r1.lt; omega
                have r0 := r0.keep (hk p0 r0.lt (by omega))
                have r1 := r1.keep (hk p1 r1.lt (by omega))
                have qA := qA.under hA (by omega)
                have qR := qR.under hA (by omega)
                have hr0 := hr0.under hA (by omega)
                have hr1 := hr1.under hA (by omega)
                have hr2 := hr2.under hA (by omega)
                have hB := hB.trans (hA.mono (by omega))
                have hsz : w.heap.size + 2 ≤ V17_13.heap.size := Nat.le_trans hsz hz
                clear hA hk hb hz hp
                have s9 := (show V17_13.cell? ⟨w.heap.size, 0, none⟩ = some (.int .i64 P.f0) ∧ V17_13.cell? ⟨w.heap.size, 1, none⟩ = some (.slice a1 P.f1.length c1) ∧ V17_13.cell? ⟨w.heap.size, 2, none⟩ = some (.slice a2 P.f2.length c2) ∧ V17_13.cell? ⟨w.heap.size, 3, none⟩ = some (.slice a3 P.f3.length c3) from ⟨qA.at rfl, qA.at rfl, qA.at rfl, qA.at rfl⟩)
                refine hK.out _ _ s9 (fun hHeld => ?_)
                clear hK K
                try simp only [Act.put, List.setIfInBounds_toArray, List.set_cons_zero, List.set_cons_succ]
                refine wpAnyH_take (i := 14) (v := ?vb5) (List.getElem?_toArray.trans rfl) (by kernel_rfl) (by kernel_rfl) (by kernel_rfl) (fun _ _ _ h => h) (Or.inl ⟨by rfl, ?yb5⟩) (by assumption) ?rb5
                case yb5 => (intro w hSw; (try dsimp only at hSw); go_simp; try with_reducible rfl)
                try simp only [Act.put, List.setIfInBounds_toArray, List.set_cons_zero, List.set_cons_succ]
                refine wpAnyH_ready (rs := [15]) (by kernel_rfl) (by simp) ?_
                refine AllReadyH.cons (List.getElem?_toArray.trans rfl) (fun K hK => ?_) AllReadyH.nil
                have z0 := qR.at (x := 0) rfl
                have z1 := qR.at (x := 1) rfl
                have z2 := qR.at (x := 2) rfl
                have z3 := qR.at (x := 3) rfl
                have d0 := qR.free 0
                have d1 := qR.free 1
                have d2 := qR.free 2
                have d3 := qR.free 3
                have qF := (((qR.set 0 (.int .i64 P.f0)).set 1 (.slice x0 P.f1.length y0)).set 2 (.slice x1 P.f2.length y1)).set 3 (.slice x2 P.f3.length y2)
                simp only [List.set_cons_zero, List.set_cons_succ] at qF
                have pA := (((qA.other (a := ⟨w.heap.size + 1, 0, none⟩) (.int .i64 P.f0) (by dsimp only; omega)).other (a := ⟨w.heap.size + 1, 1, none⟩) (.slice x0 P.f1.length y0) (by dsimp only; omega)).other (a := ⟨w.heap.size + 1, 2, none⟩) (.slice x1 P.f2.length y1) (by dsimp only; omega)).other (a := ⟨w.heap.size + 1, 3, none⟩) (.slice x2 P.f3.length y2) (by dsimp only; omega)
                have t0 := (((r0.other (q := ⟨w.heap.size + 1, 0, none⟩) (.int .i64 P.f0) (by dsimp only; omega)).other (q := ⟨w.heap.size + 1, 1, none⟩) (.slice x0 P.f1.length y0) (by dsimp only; omega)).other (q := ⟨w.heap.size + 1, 2, none⟩) (.slice x1 P.f2.length y1) (by dsimp only; omega)).other (q := ⟨w.heap.size + 1, 3, none⟩) (.slice x2 P.f3.length y2) (by dsimp only; omega)
                have t1 := (((r1.other (q := ⟨w.heap.size + 1, 0, none⟩) (.int .i64 P.f0) (by dsimp only; omega)).other (q := ⟨w.heap.size + 1, 1, none⟩) (.slice x0 P.f1.length y0) (by dsimp only; omega)).other (q := ⟨w.heap.size + 1, 2, none⟩) (.slice x1 P.f2.length y1) (by dsimp only; omega)).other (q := ⟨w.heap.size + 1, 3, none⟩) (.slice x2 P.f3.length y2) (by dsimp only; omega)
                have t2 := (((r2.other (q := ⟨w.heap.size + 1, 0, none⟩) (.int .i64 P.f0) (by dsimp only; omega)).other (q := ⟨w.heap.size + 1, 1, none⟩) (.slice x0 P.f1.length y0) (by dsimp only; omega)).other (q := ⟨w.heap.size + 1, 2, none⟩) (.slice x1 P.f2.length y1) (by dsimp only; omega)).other (q := ⟨w.heap.size + 1, 3, none⟩) (.slice x2 P.f3.length y2) (by dsimp only; omega)
                have hF := (((hB.setCell (p := ⟨w.heap.size + 1, 0, none⟩) (by dsimp only; omega) (.int .i64 P.f0)).setCell (p := ⟨w.heap.size + 1, 1, none⟩) (by dsimp only; omega) (.slice x0 P.f1.length y0)).setCell (p := ⟨w.heap.size + 1, 2, none⟩) (by dsimp only; omega) (.slice x1 P.f2.length y1)).setCell (p := ⟨w.heap.size + 1, 3, none⟩) (by dsimp only; omega) (.slice x2 P.f3.length y2)
                go_simp
                obtain ⟨VF, hVF⟩ : ∃ VF, (((V17_13.setCell ⟨w.heap.size + 1, 0, none⟩ (.int .i64 P.f0)).setCell ⟨w.heap.size + 1, 1, none⟩ (.slice x0 P.f1.length y0)).setCell ⟨w.heap.size + 1, 2, none⟩ (.slice x1 P.f2.length y1)).setCell ⟨w.heap.size + 1, 3, none⟩ (.slice x2 P.f3.length y2) = VF := ⟨_, rfl⟩
                rw [hVF] at qF pA hF t0 t1 t2 ⊢
                have s9 : VF.cell? ⟨w.heap.size, 0, none⟩ = some (.int .i64 P.f0) ∧ VF.cell? ⟨w.heap.size, 1, none⟩ = some (.slice a1 P.f1.length c1) ∧ VF.cell? ⟨w.heap.size, 2, none⟩ = some (.slice a2 P.f2.length c2) ∧ VF.cell? ⟨w.heap.size, 3, none⟩ = some (.slice a3 P.f3.length c3) := ⟨pA.at rfl, pA.at rfl, pA.at rfl, pA.at rfl⟩
                refine hK.out _ _ s9 (fun hHeld => ?_)
                clear hK K
                try simp only [Act.put, List.setIfInBounds_toArray, List.set_cons_zero, List.set_cons_succ]
                refine wpAnyH_done (by kernel_rfl) ?_ _
                go_wp2_with fail
                go_meet
                case rel => exact ⟨_, rfl, rfl, x0, y0, p0, x1, y1, p1, x2, y2, p2, qF, t0, t1, t2, pb0, pb1, pb2, n0_1, n0_2, n1_2, hF⟩
        case q12_10 =>
          obtain ⟨V12_10, hV⟩ : ∃ W, V2_6.alloc (.cells #[] 3) = W := ⟨_, rfl⟩
          have hA : Below V2_6.heap.size V2_6 V12_10 := by rw [← hV]; exact (Below.refl _ _).alloc (Nat.le_refl _) _
          obtain ⟨g2, hg2⟩ : ∃ g, V2_6.heap.size = g := ⟨_, rfl⟩
          have e2 : Blk 3 g2 [] V12_10 := by rw [← hV, ← hg2]; exact Blk.new _ [] _
          have gb2 : w.heap.size + 2 ≤ g2 := by rw [← hg2]; exact hsz
          have m0_2 : g0 ≠ g2 := by have := e0.lt; omega
          have m1_2 : g1 ≠ g2 := by have := e1.lt; omega
          have hgl2 : g2 ≤ V2_6.heap.size := by rw [← hg2]; exact Nat.le_refl _
          go_simp
          try rw [hV]
          try rw [hg2]
          have e0 := e0.below hA
          have e1 := e1.below hA
          have qA := qA.below hA
          have qR := qR.below hA
          have hr0 := hr0.below hA
          have hr1 := hr1.below hA
          have hr2 := hr2.below hA
          have hB := hB.trans (hA.mono hB.size)
          have hsz : w.heap.size + 2 ≤ V12_10.heap.size := Nat.le_trans hsz hA.size
          clear hA hV hg2 hgl2
          have s9 := (show V12_10.cell? ⟨w.heap.size, 0, none⟩ = some (.int .i64 P.f0) ∧ V12_10.cell? ⟨w.heap.size, 1, none⟩ = some (.slice a1 P.f1.length c1) ∧ V12_10.cell? ⟨w.heap.size, 2, none⟩ = some (.slice a2 P.f2.length c2) ∧ V12_10.cell? ⟨w.heap.size, 3, none⟩ = some (.slice a3 P.f3.length c3) from ⟨qA.at rfl, qA.at rfl, qA.at rfl, qA.at rfl⟩)
          refine hK.out _ _ s9 (fun hHeld => ?_)
          clear hK K
          try simp only [Act.put, List.setIfInBounds_toArray, List.set_cons_zero, List.set_cons_succ]
          refine wpAnyH_ready (rs := [5]) (by kernel_rfl) (by simp) ?_
          refine (AllReadyH.cons (List.getElem?_toArray.trans rfl) (fun K hK => ?q18_5) AllReadyH.nil)
          case q18_5 =>
            refine step_copy rfl _ _ 25 rfl 3 i0 _ 8 Try.underlying25 hi0 hz0 hz1 hz2 rfl (by omega) g0 e0 rfl 0 w.heap.size (a1) (P.f1.length) c1 (P.f1) rfl hr0 (by omega) ?_
            intro x0 y0 p0 V18_5 r0 hp hz hk hb
            have hA := hb (w.heap.size + 2) gb0
            have pb0 : w.heap.size + 2 ≤ p0 := by rcases hp with h | h <;> omega
            have m0_1 : p0 ≠ g1 := by have := e1.lt; omega
            have m0_2 : p0 ≠ g2 := by have := e2.lt; omega
            have e1 : Blk 3 g1 [] V18_5 := (hk g1 e1.lt (by omega)).trans e1
            have e2 : Blk 3 g2 [] V18_5 := (hk g2 e2.lt (by omega)).trans e2
            have qA := qA.under hA (by omega)
            have qR := qR.under hA (by omega)
            have hr0 := hr0.under hA (by omega)
            have hr1 := hr1.under hA (by omega)
            have hr2 := hr2.under hA (by omega)
            have hB := hB.trans (hA.mono (by omega))
            have hsz : w.heap.size + 2 ≤ V18_5.heap.size := Nat.le_trans hsz hz
            clear hA hk hb hz hp
            have s9 := (show V18_5.cell? ⟨w.heap.size, 0, none⟩ = some (.int .i64 P.f0) ∧ V18_5.cell? ⟨w.heap.size, 1, none⟩ = some (.slice a1 P.f1.length c1) ∧ V18_5.cell? ⟨w.heap.size, 2, none⟩ = some (.slice a2 P.f2.length c2) ∧ V18_5.cell? ⟨w.heap.size, 3, none⟩ = some (.slice a3 P.f3.length c3) from ⟨qA.at rfl, qA.at rfl, qA.at rfl, qA.at rfl⟩)
            refine hK.out _ _ s9 (fun hHeld => ?_)
            clear hK K
            try simp only [Act.put, List.setIfInBounds_toArray, List.set_cons_zero, List.set_cons_succ]
            refine wpAnyH_ready (rs := [9]) (by kernel_rfl) (by simp) ?_
            refine (AllReadyH.cons (List.getElem?_toArray.trans rfl) (fun K hK => ?q19_9) AllReadyH.nil)
            case q19_9 =>
              refine step_copy rfl _ _ 25 rfl 3 i0 _ 8 Try.underlying25 hi0 hz0 hz1 hz2 rfl (by omega) g1 e1 rfl 0 w.heap.size (a2) (P.f2.length) c2 (P.f2) rfl hr1 (by omega) ?_
              intro x1 y1 p1 V19_9 r1 hp hz hk hb
              have hA := hb (w.heap.size + 2) gb1
              have pb1 : w.heap.size + 2 ≤ p1 := by rcases hp with h | h <;> omega
              have m1_2 : p1 ≠ g2 := by have := e2.lt; omega
              have n0_1 : p0 ≠ p1 := by have := r0.lt; omega
              have e2 : Blk 3 g2 [] V19_9 := (hk g2 e2.lt (by omega)).trans e2
              have r0 := r0.keep (hk p0 r0.lt (by omega))
              have qA := qA.under hA (by omega)
              have qR := qR.under hA (by omega)
              have hr0 := hr0.under hA (by omega)
              have hr1 := hr1.under hA (by omega)
              have hr2 := hr2.under hA (by omega)
              have hB := hB.trans (hA.mono (by omega))
              have hsz : w.heap.size + 2 ≤ V19_9.heap.size := Nat.le_trans hsz hz
              clear hA hk hb hz hp
              have s9 := (show V19_9.cell? ⟨w.heap.size, 0, none⟩ = some (.int .i64 P.f0) ∧ V19_9.cell? ⟨w.heap.size, 1, none⟩ = some (.slice a1 P.f1.length c1) ∧ V19_9.cell? ⟨w.heap.size, 2, none⟩ = some (.slice a2 P.f2.length c2) ∧ V19_9.cell? ⟨w.heap.size, 3, none⟩ = some (.slice a3 P.f3.length c3) from ⟨qA.at rfl, qA.at rfl, qA.at rfl, qA.at rfl⟩)
              refine hK.out _ _ s9 (fun hHeld => ?_)
              clear hK K
              try simp only [Act.put, List.setIfInBounds_toArray, List.set_cons_zero, List.set_cons_succ]
              refine wpAnyH_ready (rs := [13]) (by kernel_rfl) (by simp) ?_
              refine (AllReadyH.cons (List.getElem?_toArray.trans rfl) (fun K hK => ?q20_13) AllReadyH.nil)
              case q20_13 =>
                refine step_copy rfl _ _ 25 rfl 3 i0 _ 8 Try.underlying25 hi0 hz0 hz1 hz2 rfl (by omega) g2 e2 rfl 0 w.heap.size (a3) (P.f3.length) c3 (P.f3) rfl hr2 (by omega) ?_
                intro x2 y2 p2 V20_13 r2 hp hz hk hb
                have hA := hb (w.heap.size + 2) gb2
                have pb2 : w.heap.size + 2 ≤ p2 := by rcases hp with h | h <;> omega
                have n0_2 : p0 ≠ p2 := by have := r0.lt; omega
                have n1_2 : p1 ≠ p2 := by have := r1.lt; omega
                have r0 := r0.keep (hk p0 r0.lt (by omega))
                have r1 := r1.keep (hk p1 r1.lt (by omega))
                have qA := qA.under hA (by omega)
                have qR := qR.under hA (by omega)
                have hr0 := hr0.under hA (by omega)
                have hr1 := hr1.under hA (by omega)
                have hr2 := hr2.under hA (by omega)
                have hB := hB.trans (hA.mono (by omega))
                have hsz : w.heap.size + 2 ≤ V20_13.heap.size := Nat.le_trans hsz hz
                clear hA hk hb hz hp
                have s9 := (show V20_13.cell? ⟨w.heap.size, 0, none⟩ = some (.int .i64 P.f0) ∧ V20_13.cell? ⟨w.heap.size, 1, none⟩ = some (.slice a1 P.f1.length c1) ∧ V20_13.cell? ⟨w.heap.size, 2, none⟩ = some (.slice a2 P.f2.length c2) ∧ V20_13.cell? ⟨w.heap.size, 3, none⟩ = some (.slice a3 P.f3.length c3) from ⟨qA.at rfl, qA.at rfl, qA.at rfl, qA.at rfl⟩)
                refine hK.out _ _ s9 (fun hHeld => ?_)
                clear hK K
                try simp only [Act.put, List.setIfInBounds_toArray, List.set_cons_zero, List.set_cons_succ]
                refine wpAnyH_take (i := 14) (v := ?vb6) (List.getElem?_toArray.trans rfl) (by kernel_rfl) (by kernel_rfl) (by kernel_rfl) (fun _ _ _ h => h) (Or.inl ⟨by rfl, ?yb6⟩) (by assumption) ?rb6
                case yb6 => (intro w hSw; (try dsimp only at hSw); go_simp; try with_reducible rfl)
                try simp only [Act.put, List.setIfInBounds_toArray, List.set_cons_zero, List.set_cons_succ]
                refine wpAnyH_ready (rs := [15]) (by kernel_rfl) (by simp) ?_
                refine AllReadyH.cons (List.getElem?_toArray.trans rfl) (fun K hK => ?_) AllReadyH.nil
                have z0 := qR.at (x := 0) rfl
                have z1 := qR.at (x := 1) rfl
                have z2 := qR.at (x := 2) rfl
                have z3 := qR.at (x := 3) rfl
                have d0 := qR.free 0
                have d1 := qR.free 1
                have d2 := qR.free 2
                have d3 := qR.free 3
                have qF := (((qR.set 0 (.int .i64 P.f0)).set 1 (.slice x0 P.f1.length y0)).set 2 (.slice x1 P.f2.length y1)).set 3 (.slice x2 P.f3.length y2)
                simp only [List.set_cons_zero, List.set_cons_succ] at qF
                have pA := (((qA.other (a := ⟨w.heap.size + 1, 0, none⟩) (.int .i64 P.f0) (by dsimp only; omega)).other (a := ⟨w.heap.size + 1, 1, none⟩) (.slice x0 P.f1.length y0) (by dsimp only; omega)).other (a := ⟨w.heap.size + 1, 2, none⟩) (.slice x1 P.f2.length y1) (by dsimp only; omega)).other (a := ⟨w.heap.size + 1, 3, none⟩) (.slice x2 P.f3.length y2) (by dsimp only; omega)
                have t0 := (((r0.other (q := ⟨w.heap.size + 1, 0, none⟩) (.int .i64 P.f0) (by dsimp only; omega)).other (q := ⟨w.heap.size + 1, 1, none⟩) (.slice x0 P.f1.length y0) (by dsimp only; omega)).other (q := ⟨w.heap.size + 1, 2, none⟩) (.slice x1 P.f2.length y1) (by dsimp only; omega)).other (q := ⟨w.heap.size + 1, 3, none⟩) (.slice x2 P.f3.length y2) (by dsimp only; omega)
                have t1 := (((r1.other (q := ⟨w.heap.size + 1, 0, none⟩) (.int .i64 P.f0) (by dsimp only; omega)).other (q := ⟨w.heap.size + 1, 1, none⟩) (.slice x0 P.f1.length y0) (by dsimp only; omega)).other (q := ⟨w.heap.size + 1, 2, none⟩) (.slice x1 P.f2.length y1) (by dsimp only; omega)).other (q := ⟨w.heap.size + 1, 3, none⟩) (.slice x2 P.f3.length y2) (by dsimp only; omega)
                have t2 := (((r2.other (q := ⟨w.heap.size + 1, 0, none⟩) (.int .i64 P.f0) (by dsimp only; omega)).other (q := ⟨w.heap.size + 1, 1, none⟩) (.slice x0 P.f1.length y0) (by dsimp only; omega)).other (q := ⟨w.heap.size + 1, 2, none⟩) (.slice x1 P.f2.length y1) (by dsimp only; omega)).other (q := ⟨w.heap.size + 1, 3, none⟩) (.slice x2 P.f3.length y2) (by dsimp only; omega)
                have hF := (((hB.setCell (p := ⟨w.heap.size + 1, 0, none⟩) (by dsimp only; omega) (.int .i64 P.f0)).setCell (p := ⟨w.heap.size + 1, 1, none⟩) (by dsimp only; omega) (.slice x0 P.f1.length y0)).setCell (p := ⟨w.heap.size + 1, 2, none⟩) (by dsimp only; omega) (.slice x1 P.f2.length y1)).setCell (p := ⟨w.heap.size + 1, 3, none⟩) (by dsimp only; omega) (.slice x2 P.f3.length y2)
                go_simp
                obtain ⟨VF, hVF⟩ : ∃ VF, (((V20_13.setCell ⟨w.heap.size + 1, 0, none⟩ (.int .i64 P.f0)).setCell ⟨w.heap.size + 1, 1, none⟩ (.slice x0 P.f1.length y0)).setCell ⟨w.heap.size + 1, 2, none⟩ (.slice x1 P.f2.length y1)).setCell ⟨w.heap.size + 1, 3, none⟩ (.slice x2 P.f3.length y2) = VF := ⟨_, rfl⟩
                rw [hVF] at qF pA hF t0 t1 t2 ⊢
                have s9 : VF.cell? ⟨w.heap.size, 0, none⟩ = some (.int .i64 P.f0) ∧ VF.cell? ⟨w.heap.size, 1, none⟩ = some (.slice a1 P.f1.length c1) ∧ VF.cell? ⟨w.heap.size, 2, none⟩ = some (.slice a2 P.f2.length c2) ∧ VF.cell? ⟨w.heap.size, 3, none⟩ = some (.slice a3 P.f3.length c3) := ⟨pA.at rfl, pA.at rfl, pA.at rfl, pA.at rfl⟩
                refine hK.out _ _ s9 (fun hHeld => ?_)
                clear hK K
                try simp only [Act.put, List.setIfInBounds_toArray, List.set_cons_zero, List.set_cons_succ]
                refine wpAnyH_done (by kernel_rfl) ?_ _
                go_wp2_with fail
                go_meet
                case rel => exact ⟨_, rfl, rfl, x0, y0, p0, x1, y1, p1, x2, y2, p2, qF, t0, t1, t2, pb0, pb1, pb2, n0_1, n0_2, n1_2, hF⟩
      case q2_10 =>
        obtain ⟨V2_10, hV⟩ : ∃ W, V1_2.alloc (.cells #[] 3) = W := ⟨_, rfl⟩
        have hA : Below V1_2.heap.size V1_2 V2_10 := by rw [← hV]; exact (Below.refl _ _).alloc (Nat.le_refl _) _
        obtain ⟨g2, hg2⟩ : ∃ g, V1_2.heap.size = g := ⟨_, rfl⟩
        have e2 : Blk 3 g2 [] V2_10 := by rw [← hV, ← hg2]; exact Blk.new _ [] _
        have gb2 : w.heap.size + 2 ≤ g2 := by rw [← hg2]; exact hsz
        have m0_2 : g0 ≠ g2 := by have := e0.lt; omega
        have hgl2 : g2 ≤ V1_2.heap.size := by rw [← hg2]; exact Nat.le_refl _
        go_simp
        try rw [hV]
        try rw [hg2]
        have e0 := e0.below hA
        have qA := qA.below hA
        have qR := qR.below hA
        have hr0 := hr0.below hA
        have hr1 := hr1.below hA
        have hr2 := hr2.below hA
        have hB := hB.trans (hA.mono hB.size)
        have hsz : w.heap.size + 2 ≤ V2_10.heap.size := Nat.le_trans hsz hA.size
        clear hA hV hg2 hgl2
        have s9 := (show V2_10.cell? ⟨w.heap.size, 0, none⟩ = some (.int .i64 P.f0) ∧ V2_10.cell? ⟨w.heap.size, 1, none⟩ = some (.slice a1 P.f1.length c1) ∧ V2_10.cell? ⟨w.heap.size, 2, none⟩ = some (.slice a2 P.f2.length c2) ∧ V2_10.cell? ⟨w.heap.size, 3, none⟩ = some (.slice a3 P.f3.length c3) from ⟨qA.at rfl, qA.at rfl, qA.at rfl, qA.at rfl⟩)
        refine hK.out _ _ s9 (fun hHeld => ?_)
        clear hK K
        try simp only [Act.put, List.setIfInBounds_toArray, List.set_cons_zero, List.set_cons_succ]
        refine wpAnyH_ready (rs := [5, 6]) (by kernel_rfl) (by simp) ?_
        refine (AllReadyH.cons (List.getElem?_toArray.trans rfl) (fun K hK => ?q21_5) (AllReadyH.cons (List.getElem?_toArray.trans rfl) (fun K hK => ?q21_6) AllReadyH.nil))
        case q21_5 =>
          refine step_copy rfl _ _ 25 rfl 3 i0 _ 8 Try.underlying25 hi0 hz0 hz1 hz2 rfl (by omega) g0 e0 rfl 0 w.heap.size (a1) (P.f1.length) c1 (P.f1) rfl hr0 (by omega) ?_
          intro x0 y0 p0 V21_5 r0 hp hz hk hb
          have hA := hb (w.heap.size + 2) gb0
          have pb0 : w.heap.size + 2 ≤ p0 := by rcases hp with h | h <;> omega
          have m0_2 : p0 ≠ g2 := by have := e2.lt; omega
          have e2 : Blk 3 g2 [] V21_5 := (hk g2 e2.lt (by omega)).trans e2
          have qA := qA.under hA (by omega)
          have qR := qR.under hA (by omega)
          have hr0 := hr0.under hA (by omega)
          have hr1 := hr1.under hA (by omega)
          have hr2 := hr2.under hA (by omega)
          have hB := hB.trans (hA.mono (by omega))
          have hsz : w.heap.size + 2 ≤ V21_5.heap.size := Nat.le_trans hsz hz
          clear hA hk hb hz hp
          have s9 := (show V21_5.cell? ⟨w.heap.size, 0, none⟩ = some (.int .i64 P.f0) ∧ V21_5.cell? ⟨w.heap.size, 1, none⟩ = some (.slice a1 P.f1.length c1) ∧ V21_5.cell? ⟨w.heap.size, 2, none⟩ = some (.slice a2 P.f2.length c2) ∧ V21_5.cell? ⟨w.heap.size, 3, none⟩ = some (.slice a3 P.f3.length c3) from ⟨qA.at rfl, qA.at rfl, qA.at rfl, qA.at rfl⟩)
          refine hK.out _ _ s9 (fun hHeld => ?_)
          clear hK K
          try simp only [Act.put, List.setIfInBounds_toArray, List.set_cons_zero, List.set_cons_succ]
          refine wpAnyH_ready (rs := [6]) (by kernel_rfl) (by simp) ?_
          refine (AllReadyH.cons (List.getElem?_toArray.trans rfl) (fun K hK => ?q22_6) AllReadyH.nil)
          case q22_6 =>
            obtain ⟨V22_6, hV⟩ : ∃ W, V21_5.alloc (.cells #[] 3) = W := ⟨_, rfl⟩
            have hA : Below V21_5.heap.size V21_5 V22_6 := by rw [← hV]; exact (Below.refl _ _).alloc (Nat.le_refl _) _
            obtain ⟨g1, hg1⟩ : ∃ g, V21_5.heap.size = g := ⟨_, rfl⟩
            have e1 : Blk 3 g1 [] V22_6 := by rw [← hV, ← hg1]; exact Blk.new _ [] _
            have gb1 : w.heap.size + 2 ≤ g1 := by rw [← hg1]; exact hsz
            have m2_1 : g2 ≠ g1 := by have := e2.lt; omega
            have m0_1 : p0 ≠ g1 := by have := r0.lt; omega
            have hgl1 : g1 ≤ V21_5.heap.size := by rw [← hg1]; exact Nat.le_refl _
            go_simp
            try rw [hV]
            try rw [hg1]
            have e2 := e2.below hA
            have r0 := r0.below hA
            have qA := qA.below hA
            have qR := qR.below hA
            have hr0 := hr0.below hA
            have hr1 := hr1.below hA
            have hr2 := hr2.below hA
            have hB := hB.trans (hA.mono hB.size)
            have hsz : w.heap.size + 2 ≤ V22_6.heap.size := Nat.le_trans hsz hA.size
            clear hA hV hg1 hgl1
            have s9 := (show V22_6.cell? ⟨w.heap.size, 0, none⟩ = some (.int .i64 P.f0) ∧ V22_6.cell? ⟨w.heap.size, 1, none⟩ = some (.slice a1 P.f1.length c1) ∧ V22_6.cell? ⟨w.heap.size, 2, none⟩ = some (.slice a2 P.f2.length c2) ∧ V22_6.cell? ⟨w.heap.size, 3, none⟩ = some (.slice a3 P.f3.length c3) from ⟨qA.at rfl, qA.at rfl, qA.at rfl, qA.at rfl⟩)
            refine hK.out _ _ s9 (fun hHeld => ?_)
            clear hK K
            try simp only [Act.put, List.setIfInBounds_toArray, List.set_cons_zero, List.set_cons_succ]
            refine wpAnyH_ready (rs := [9]) (by kernel_rfl) (by simp) ?_
            refine (AllReadyH.cons (List.getElem?_toArray.trans rfl) (fun K hK => ?q23_9) AllReadyH.nil)
            case q23_9 =>
              refine step_copy rfl _ _ 25 rfl 3 i0 _ 8 Try.underlying25 hi0 hz0 hz1 hz2 rfl (by omega) g1 e1 rfl 0 w.heap.size (a2) (P.f2.length) c2 (P.f2) rfl hr1 (by omega) ?_
              intro x1 y1 p1 V23_9 r1 hp hz hk hb
              have hA := hb (w.heap.size + 2) gb1
              have pb1 : w.heap.size + 2 ≤ p1 := by rcases hp with h | h <;> omega
              have m1_2 : p1 ≠ g2 := by have := e2.lt; omega
              have n0_1 : p0 ≠ p1 := by have := r0.lt; omega
              have e2 : Blk 3 g2 [] V23_9 := (hk g2 e2.lt (by omega)).trans e2
              have r0 := r0.keep (hk p0 r0.lt (by omega))
              have qA := qA.under hA (by omega)
              have qR := qR.under hA (by omega)
              have hr0 := hr0.under hA (by omega)
              have hr1 := hr1.under hA (by omega)
              have hr2 := hr2.under hA (by omega)
              have hB := hB.trans (hA.mono (by omega))
              have hsz : w.heap.size + 2 ≤ V23_9.heap.size := Nat.le_trans hsz hz
              clear hA hk hb hz hp
              have s9 := (show V23_9.cell? ⟨w.heap.size, 0, none⟩ = some (.int .i64 P.f0) ∧ V23_9.cell? ⟨w.heap.size, 1, none⟩ = some (.slice a1 P.f1.length c1) ∧ V23_9.cell? ⟨w.heap.size, 2, none⟩ = some (.slice a2 P.f2.length c2) ∧ V23_9.cell? ⟨w.heap.size, 3, none⟩ = some (.slice a3 P.f3.length c3) from ⟨qA.at rfl, qA.at rfl, qA.at rfl, qA.at rfl⟩)
              refine hK.out _ _ s9 (fun hHeld => ?_)
              clear hK K
              try simp only [Act.put, List.setIfInBounds_toArray, List.set_cons_zero, List.set_cons_succ]
              refine wpAnyH_ready (rs := [13]) (by kernel_rfl) (by simp) ?_
              refine (AllReadyH.cons (List.getElem?_toArray.trans rfl) (fun K hK => ?q24_13) AllReadyH.nil)
              case q24_13 =>
                refine step_copy rfl _ _ 25 rfl 3 i0 _ 8 Try.underlying25 hi0 hz0 hz1 hz2 rfl (by omega) g2 e2 rfl 0 w.heap.size (a3) (P.f3.length) c3 (P.f3) rfl hr2 (by omega) ?_
                intro x2 y2 p2 V24_13 r2 hp hz hk hb
                have hA := hb (w.heap.size + 2) gb2
                have pb2 : w.heap.size + 2 ≤ p2 := by rcases hp with h | h <;> omega
                have n0_2 : p0 ≠ p2 := by have := r0.lt; omega
                have n1_2 : p1 ≠ p2 := by have := r1.lt; omega
                have r0 := r0.keep (hk p0 r0.lt (by omega))
                have r1 := r1.keep (hk p1 r1.lt (by omega))
                have qA := qA.under hA (by omega)
                have qR := qR.under hA (by omega)
                have hr0 := hr0.under hA (by omega)
                have hr1 := hr1.under hA (by omega)
                have hr2 := hr2.under hA (by omega)
                have hB := hB.trans (hA.mono (by omega))
                have hsz : w.heap.size + 2 ≤ V24_13.heap.size := Nat.le_trans hsz hz
                clear hA hk hb hz hp
                have s9 := (show V24_13.cell? ⟨w.heap.size, 0, none⟩ = some (.int .i64 P.f0) ∧ V24_13.cell? ⟨w.heap.size, 1, none⟩ = some (.slice a1 P.f1.length c1) ∧ V24_13.cell? ⟨w.heap.size, 2, none⟩ = some (.slice a2 P.f2.length c2) ∧ V24_13.cell? ⟨w.heap.size, 3, none⟩ = some (.slice a3 P.f3.length c3) from ⟨qA.at rfl, qA.at rfl, qA.at rfl, qA.at rfl⟩)
                refine hK.out _ _ s9 (fun hHeld => ?_)
                clear hK K
                try simp only [Act.put, List.setIfInBounds_toArray, List.set_cons_zero, List.set_cons_succ]
                refine wpAnyH_take (i := 14) (v := ?vb7) (List.getElem?_toArray.trans rfl) (by kernel_rfl) (by kernel_rfl) (by kernel_rfl) (fun _ _ _ h => h) (Or.inl ⟨by rfl, ?yb7⟩) (by assumption) ?rb7
                case yb7 => (intro w hSw; (try dsimp only at hSw); go_simp; try with_reducible rfl)
                try simp only [Act.put, List.setIfInBounds_toArray, List.set_cons_zero, List.set_cons_succ]
                refine wpAnyH_ready (rs := [15]) (by kernel_rfl) (by simp) ?_
                refine AllReadyH.cons (List.getElem?_toArray.trans rfl) (fun K hK => ?_) AllReadyH.nil
                have z0 := qR.at (x := 0) rfl
                have z1 := qR.at (x := 1) rfl
                have z2 := qR.at (x := 2) rfl
                have z3 := qR.at (x := 3) rfl
                have d0 := qR.free 0
                have d1 := qR.free 1
                have d2 := qR.free 2
                have d3 := qR.free 3
                have qF := (((qR.set 0 (.int .i64 P.f0)).set 1 (.slice x0 P.f1.length y0)).set 2 (.slice x1 P.f2.length y1)).set 3 (.slice x2 P.f3.length y2)
                simp only [List.set_cons_zero, List.set_cons_succ] at qF
                have pA := (((qA.other (a := ⟨w.heap.size + 1, 0, none⟩) (.int .i64 P.f0) (by dsimp only; omega)).other (a := ⟨w.heap.size + 1, 1, none⟩) (.slice x0 P.f1.length y0) (by dsimp only; omega)).other (a := ⟨w.heap.size + 1, 2, none⟩) (.slice x1 P.f2.length y1) (by dsimp only; omega)).other (a := ⟨w.heap.size + 1, 3, none⟩) (.slice x2 P.f3.length y2) (by dsimp only; omega)
                have t0 := (((r0.other (q := ⟨w.heap.size + 1, 0, none⟩) (.int .i64 P.f0) (by dsimp only; omega)).other (q := ⟨w.heap.size + 1, 1, none⟩) (.slice x0 P.f1.length y0) (by dsimp only; omega)).other (q := ⟨w.heap.size + 1, 2, none⟩) (.slice x1 P.f2.length y1) (by dsimp only; omega)).other (q := ⟨w.heap.size + 1, 3, none⟩) (.slice x2 P.f3.length y2) (by dsimp only; omega)
                have t1 := (((r1.other (q := ⟨w.heap.size + 1, 0, none⟩) (.int .i64 P.f0) (by dsimp only; omega)).other (q := ⟨w.heap.size + 1, 1, none⟩) (.slice x0 P.f1.length y0) (by dsimp only; omega)).other (q := ⟨w.heap.size + 1, 2, none⟩) (.slice x1 P.f2.length y1) (by dsimp only; omega)).other (q := ⟨w.heap.size + 1, 3, none⟩) (.slice x2 P.f3.length y2) (by dsimp only; omega)
                have t2 := (((r2.other (q := ⟨w.heap.size + 1, 0, none⟩) (.int .i64 P.f0) (by dsimp only; omega)).other (q := ⟨w.heap.size + 1, 1, none⟩) (.slice x0 P.f1.length y0) (by dsimp only; omega)).other (q := ⟨w.heap.size + 1, 2, none⟩) (.slice x1 P.f2.length y1) (by dsimp only; omega)).other (q := ⟨w.heap.size + 1, 3, none⟩) (.slice x2 P.f3.length y2) (by dsimp only; omega)
                have hF := (((hB.setCell (p := ⟨w.heap.size + 1, 0, none⟩) (by dsimp only; omega) (.int .i64 P.f0)).setCell (p := ⟨w.heap.size + 1, 1, none⟩) (by dsimp only; omega) (.slice x0 P.f1.length y0)).setCell (p := ⟨w.heap.size + 1, 2, none⟩) (by dsimp only; omega) (.slice x1 P.f2.length y1)).setCell (p := ⟨w.heap.size + 1, 3, none⟩) (by dsimp only; omega) (.slice x2 P.f3.length y2)
                go_simp
                obtain ⟨VF, hVF⟩ : ∃ VF, (((V24_13.setCell ⟨w.heap.size + 1, 0, none⟩ (.int .i64 P.f0)).setCell ⟨w.heap.size + 1, 1, none⟩ (.slice x0 P.f1.length y0)).setCell ⟨w.heap.size + 1, 2, none⟩ (.slice x1 P.f2.length y1)).setCell ⟨w.heap.size + 1, 3, none⟩ (.slice x2 P.f3.length y2) = VF := ⟨_, rfl⟩
                rw [hVF] at qF pA hF t0 t1 t2 ⊢
                have s9 : VF.cell? ⟨w.heap.size, 0, none⟩ = some (.int .i64 P.f0) ∧ VF.cell? ⟨w.heap.size, 1, none⟩ = some (.slice a1 P.f1.length c1) ∧ VF.cell? ⟨w.heap.size, 2, none⟩ = some (.slice a2 P.f2.length c2) ∧ VF.cell? ⟨w.heap.size, 3, none⟩ = some (.slice a3 P.f3.length c3) := ⟨pA.at rfl, pA.at rfl, pA.at rfl, pA.at rfl⟩
                refine hK.out _ _ s9 (fun hHeld => ?_)
                clear hK K
                try simp only [Act.put, List.setIfInBounds_toArray, List.set_cons_zero, List.set_cons_succ]
                refine wpAnyH_done (by kernel_rfl) ?_ _
                go_wp2_with fail
                go_meet
                case rel => exact ⟨_, rfl, rfl, x0, y0, p0, x1, y1, p1, x2, y2, p2, qF, t0, t1, t2, pb0, pb1, pb2, n0_1, n0_2, n1_2, hF⟩
        case q21_6 =>
          obtain ⟨V21_6, hV⟩ : ∃ W, V2_10.alloc (.cells #[] 3) = W := ⟨_, rfl⟩
          have hA : Below V2_10.heap.size V2_10 V21_6 := by rw [← hV]; exact (Below.refl _ _).alloc (Nat.le_refl _) _
          obtain ⟨g1, hg1⟩ : ∃ g, V2_10.heap.size = g := ⟨_, rfl⟩
          have e1 : Blk 3 g1 [] V21_6 := by rw [← hV, ← hg1]; exact Blk.new _ [] _
          have gb1 : w.heap.size + 2 ≤ g1 := by rw [← hg1]; exact hsz
          have m0_1 : g0 ≠ g1 := by have := e0.lt; omega
          have m2_1 : g2 ≠ g1 := by have := e2.lt; omega
          have hgl1 : g1 ≤ V2_10.heap.size := by rw [← hg1]; exact Nat.le_refl _
          go_simp
          try rw [hV]
          try rw [hg1]
          have e0 := e0.below hA
          have e2 := e2.below hA
          have qA := qA.below hA
          have qR := qR.below hA
          have hr0 := hr0.below hA
          have hr1 := hr1.below hA
          have hr2 := hr2.below hA
          have hB := hB.trans (hA.mono hB.size)
          have hsz : w.heap.size + 2 ≤ V21_6.heap.size := Nat.le_trans hsz hA.size
          clear hA hV hg1 hgl1
          have s9 := (show V21_6.cell? ⟨w.heap.size, 0, none⟩ = some (.int .i64 P.f0) ∧ V21_6.cell? ⟨w.heap.size, 1, none⟩ = some (.slice a1 P.f1.length c1) ∧ V21_6.cell? ⟨w.heap.size, 2, none⟩ = some (.slice a2 P.f2.length c2) ∧ V21_6.cell? ⟨w.heap.size, 3, none⟩ = some (.slice a3 P.f3.length c3) from ⟨qA.at rfl, qA.at rfl, qA.at rfl, qA.at rfl⟩)
          refine hK.out _ _ s9 (fun hHeld => ?_)
          clear hK K
          try simp only [Act.put, List.setIfInBounds_toArray, List.set_cons_zero, List.set_cons_succ]
          refine wpAnyH_ready (rs := [5]) (by kernel_rfl) (by simp) ?_
          refine (AllReadyH.cons (List.getElem?_toArray.trans rfl) (fun K hK => ?q25_5) AllReadyH.nil)
          case q25_5 =>
            refine step_copy rfl _ _ 25 rfl 3 i0 _ 8 Try.underlying25 hi0 hz0 hz1 hz2 rfl (by omega) g0 e0 rfl 0 w.heap.size (a1) (P.f1.length) c1 (P.f1) rfl hr0 (by omega) ?_
            intro x0 y0 p0 V25_5 r0 hp hz hk hb
            have hA := hb (w.heap.size + 2) gb0
            have pb0 : w.heap.size + 2 ≤ p0 := by rcases hp with h | h <;> omega
            have m0_1 : p0 ≠ g1 := by have := e1.lt; omega
            have m0_2 : p0 ≠ g2 := by have := e2.lt; omega
            have e1 : Blk 3 g1 [] V25_5 := (hk g1 e1.lt (by omega)).trans e1
            have e2 : Blk 3 g2 [] V25_5 := (hk g2 e2.lt (by omega)).trans e2
            have qA := qA.under hA (by omega)
            have qR := qR.under hA (by omega)
            have hr0 := hr0.under hA (by omega)
            have hr1 := hr1.under hA (by omega)
            have hr2 := hr2.under hA (by omega)
            have hB := hB.trans (hA.mono (by omega))
            have hsz : w.heap.size + 2 ≤ V25_5.heap.size := Nat.le_trans hsz hz
            clear hA hk hb hz hp
            have s9 := (show V25_5.cell? ⟨w.heap.size, 0, none⟩ = some (.int .i64 P.f0) ∧ V25_5.cell? ⟨w.heap.size, 1, none⟩ = some (.slice a1 P.f1.length c1) ∧ V25_5.cell? ⟨w.heap.size, 2, none⟩ = some (.slice a2 P.f2.length c2) ∧ V25_5.cell? ⟨w.heap.size, 3, none⟩ = some (.slice a3 P.f3.length c3) from ⟨qA.at rfl, qA.at rfl, qA.at rfl, qA.at rfl⟩)
            refine hK.out _ _ s9 (fun hHeld => ?_)
            clear hK K
            try simp only [Act.put, List.setIfInBounds_toArray, List.set_cons_zero, List.set_cons_succ]
            refine wpAnyH_ready (rs := [9]) (by kernel_rfl) (by simp) ?_
            refine (AllReadyH.cons (List.getElem?_toArray.trans rfl) (fun K hK => ?q26_9) AllReadyH.nil)
            case q26_9 =>
              refine step_copy rfl _ _ 25 rfl 3 i0 _ 8 Try.underlying25 hi0 hz0 hz1 hz2 rfl (by omega) g1 e1 rfl 0 w.heap.size (a2) (P.f2.length) c2 (P.f2) rfl hr1 (by omega) ?_
              intro x1 y1 p1 V26_9 r1 hp hz hk hb
              have hA := hb (w.heap.size + 2) gb1
              have pb1 : w.heap.size + 2 ≤ p1 := by rcases hp with h | h <;> omega
              have m1_2 : p1 ≠ g2 := by have := e2.lt; omega
              have n0_1 : p0 ≠ p1 := by have := r0.lt; omega
              have e2 : Blk 3 g2 [] V26_9 := (hk g2 e2.lt (by omega)).trans e2
              have r0 := r0.keep (hk p0 r0.lt (by omega))
              have qA := qA.under hA (by omega)
              have qR := qR.under hA (by omega)
              have hr0 := hr0.under hA (by omega)
              have hr1 := hr1.under hA (by omega)
              have hr2 := hr2.under hA (by omega)
              have hB := hB.trans (hA.mono (by omega))
              have hsz : w.heap.size + 2 ≤ V26_9.heap.size := Nat.le_trans hsz hz
              clear hA hk hb hz hp
              have s9 := (show V26_9.cell? ⟨w.heap.size, 0, none⟩ = some (.int .i64 P.f0) ∧ V26_9.cell? ⟨w.heap.size, 1, none⟩ = some (.slice a1 P.f1.length c1) ∧ V26_9.cell? ⟨w.heap.size, 2, none⟩ = some (.slice a2 P.f2.length c2) ∧ V26_9.cell? ⟨w.heap.size, 3, none⟩ = some (.slice a3 P.f3.length c3) from ⟨qA.at rfl, qA.at rfl, qA.at rfl, qA.at rfl⟩)
              refine hK.out _ _ s9 (fun hHeld => ?_)
              clear hK K
              try simp only [Act.put, List.setIfInBounds_toArray, List.set_cons_zero, List.set_cons_succ]
              refine wpAnyH_ready (rs := [13]) (by kernel_rfl) (by simp) ?_
              refine (AllReadyH.cons (List.getElem?_toArray.trans rfl) (fun K hK => ?q27_13) AllReadyH.nil)
              case q27_13 =>
                refine step_copy rfl _ _ 25 rfl 3 i0 _ 8 Try.underlying25 hi0 hz0 hz1 hz2 rfl (by omega) g2 e2 rfl 0 w.heap.size (a3) (P.f3.length) c3 (P.f3) rfl hr2 (by omega) ?_
                intro x2 y2 p2 V27_13 r2 hp hz hk hb
                have hA := hb (w.heap.size + 2) gb2
                have pb2 : w.heap.size + 2 ≤ p2 := by rcases hp with h | h <;> omega
                have n0_2 : p0 ≠ p2 := by have := r0.lt; omega
                have n1_2 : p1 ≠ p2 := by have := r1.lt; omega
                have r0 := r0.keep (hk p0 r0.lt (by omega))
                have r1 := r1.keep (hk p1 r1.lt (by omega))
                have qA := qA.under hA (by omega)
                have qR := qR.under hA (by omega)
                have hr0 := hr0.under hA (by omega)
                have hr1 := hr1.under hA (by omega)
                have hr2 := hr2.under hA (by omega)
                have hB := hB.trans (hA.mono (by omega))
                have hsz : w.heap.size + 2 ≤ V27_13.heap.size := Nat.le_trans hsz hz
                clear hA hk hb hz hp
                have s9 := (show V27_13.cell? ⟨w.heap.size, 0, none⟩ = some (.int .i64 P.f0) ∧ V27_13.cell? ⟨w.heap.size, 1, none⟩ = some (.slice a1 P.f1.length c1) ∧ V27_13.cell? ⟨w.heap.size, 2, none⟩ = some (.slice a2 P.f2.length c2) ∧ V27_13.cell? ⟨w.heap.size, 3, none⟩ = some (.slice a3 P.f3.length c3) from ⟨qA.at rfl, qA.at rfl, qA.at rfl, qA.at rfl⟩)
                refine hK.out _ _ s9 (fun hHeld => ?_)
                clear hK K
                try simp only [Act.put, List.setIfInBounds_toArray, List.set_cons_zero, List.set_cons_succ]
                refine wpAnyH_take (i := 14) (v := ?vb8) (List.getElem?_toArray.trans rfl) (by kernel_rfl) (by kernel_rfl) (by kernel_rfl) (fun _ _ _ h => h) (Or.inl ⟨by rfl, ?yb8⟩) (by assumption) ?rb8
                case yb8 => (intro w hSw; (try dsimp only at hSw); go_simp; try with_reducible rfl)
                try simp only [Act.put, List.setIfInBounds_toArray, List.set_cons_zero, List.set_cons_succ]
                refine wpAnyH_ready (rs := [15]) (by kernel_rfl) (by simp) ?_
                refine AllReadyH.cons (List.getElem?_toArray.trans rfl) (fun K hK => ?_) AllReadyH.nil
                have z0 := qR.at (x := 0) rfl
                have z1 := qR.at (x := 1) rfl
                have z2 := qR.at (x := 2) rfl
                have z3 := qR.at (x := 3) rfl
                have d0 := qR.free 0
                have d1 := qR.free 1
                have d2 := qR.free 2
                have d3 := qR.free 3
                have qF := (((qR.set 0 (.int .i64 P.f0)).set 1 (.slice x0 P.f1.length y0)).set 2 (.slice x1 P.f2.length y1)).set 3 (.slice x2 P.f3.length y2)
                simp only [List.set_cons_zero, List.set_cons_succ] at qF
                have pA := (((qA.other (a := ⟨w.heap.size + 1, 0, none⟩) (.int .i64 P.f0) (by dsimp only; omega)).other (a := ⟨w.heap.size + 1, 1, none⟩) (.slice x0 P.f1.length y0) (by dsimp only; omega)).other (a := ⟨w.heap.size + 1, 2, none⟩) (.slice x1 P.f2.length y1) (by dsimp only; omega)).other (a := ⟨w.heap.size + 1, 3, none⟩) (.slice x2 P.f3.length y2) (by dsimp only; omega)
                have t0 := (((r0.other (q := ⟨w.heap.size + 1, 0, none⟩) (.int .i64 P.f0) (by dsimp only; omega)).other (q := ⟨w.heap.size + 1, 1, none⟩) (.slice x0 P.f1.length y0) (by dsimp only; omega)).other (q := ⟨w.heap.size + 1, 2, none⟩) (.slice x1 P.f2.length y1) (by dsimp only; omega)).other (q := ⟨w.heap.size + 1, 3, none⟩) (.slice x2 P.f3.length y2) (by dsimp only; omega)
                have t1 := (((r1.other (q := ⟨w.heap.size + 1, 0, none⟩) (.int .i64 P.f0) (by dsimp only; omega)).other (q := ⟨w.heap.size + 1, 1, none⟩) (.slice x0 P.f1.length y0) (by dsimp only; omega)).other (q := ⟨w.heap.size + 1, 2, none⟩) (.slice x1 P.f2.length y1) (by dsimp only; omega)).other (q := ⟨w.heap.size + 1, 3, none⟩) (.slice x2 P.f3.length y2) (by dsimp only; omega)
                have t2 := (((r2.other (q := ⟨w.heap.size + 1, 0, none⟩) (.int .i64 P.f0) (by dsimp only; omega)).other (q := ⟨w.heap.size + 1, 1, none⟩) (.slice x0 P.f1.length y0) (by dsimp only; omega)).other (q := ⟨w.heap.size + 1, 2, none⟩) (.slice x1 P.f2.length y1) (by dsimp only; omega)).other (q := ⟨w.heap.size + 1, 3, none⟩) (.slice x2 P.f3.length y2) (by dsimp only; omega)
                have hF := (((hB.setCell (p := ⟨w.heap.size + 1, 0, none⟩) (by dsimp only; omega) (.int .i64 P.f0)).setCell (p := ⟨w.heap.size + 1, 1, none⟩) (by dsimp only; omega) (.slice x0 P.f1.length y0)).setCell (p := ⟨w.heap.size + 1, 2, none⟩) (by dsimp only; omega) (.slice x1 P.f2.length y1)).setCell (p := ⟨w.heap.size + 1, 3, none⟩) (by dsimp only; omega) (.slice x2 P.f3.length y2)
                go_simp
                obtain ⟨VF, hVF⟩ : ∃ VF, (((V27_13.setCell ⟨w.heap.size + 1, 0, none⟩ (.int .i64 P.f0)).setCell ⟨w.heap.size + 1, 1, none⟩ (.slice x0 P.f1.length y0)).setCell ⟨w.heap.size + 1, 2, none⟩ (.slice x1 P.f2.length y1)).setCell ⟨w.heap.size + 1, 3, none⟩ (.slice x2 P.f3.length y2) = VF := ⟨_, rfl⟩
                rw [hVF] at qF pA hF t0 t1 t2 ⊢
                have s9 : VF.cell? ⟨w.heap.size, 0, none⟩ = some (.int .i64 P.f0) ∧ VF.cell? ⟨w.heap.size, 1, none⟩ = some (.slice a1 P.f1.length c1) ∧ VF.cell? ⟨w.heap.size, 2, none⟩ = some (.slice a2 P.f2.length c2) ∧ VF.cell? ⟨w.heap.size, 3, none⟩ = some (.slice a3 P.f3.length c3) := ⟨pA.at rfl, pA.at rfl, pA.at rfl, pA.at rfl⟩
                refine hK.out _ _ s9 (fun hHeld => ?_)
                clear hK K
                try simp only [Act.put, List.setIfInBounds_toArray, List.set_cons_zero, List.set_cons_succ]
                refine wpAnyH_done (by kernel_rfl) ?_ _
                go_wp2_with fail
                go_meet
                case rel => exact ⟨_, rfl, rfl, x0, y0, p0, x1, y1, p1, x2, y2, p2, qF, t0, t1, t2, pb0, pb1, pb2, n0_1, n0_2, n1_2, hF⟩
    case q1_6 =>
      obtain ⟨V1_6, hV⟩ : ∃ W, V0.alloc (.cells #[] 3) = W := ⟨_, rfl⟩
      have hA : Below V0.heap.size V0 V1_6 := by rw [← hV]; exact (Below.refl _ _).alloc (Nat.le_refl _) _
      obtain ⟨g1, hg1⟩ : ∃ g, V0.heap.size = g := ⟨_, rfl⟩
      have e1 : Blk 3 g1 [] V1_6 := by rw [← hV, ← hg1]; exact Blk.new _ [] _
      have gb1 : w.heap.size + 2 ≤ g1 := by rw [← hg1]; exact hsz
      have hgl1 : g1 ≤ V0.heap.size := by rw [← hg1]; exact Nat.le_refl _
      go_simp
      try rw [hV]
      try rw [hg1]
      have qA := qA.below hA
      have qR := qR.below hA
      have hr0 := hr0.below hA
      have hr1 := hr1.below hA
      have hr2 := hr2.below hA
      have hB := hB.trans (hA.mono hB.size)
      have hsz : w.heap.size + 2 ≤ V1_6.heap.size := Nat.le_trans hsz hA.size
      clear hA hV hg1 hgl1
      have s9 := (show V1_6.cell? ⟨w.heap.size, 0, none⟩ = some (.int .i64 P.f0) ∧ V1_6.cell? ⟨w.heap.size, 1, none⟩ = some (.slice a1 P.f1.length c1) ∧ V1_6.cell? ⟨w.heap.size, 2, none⟩ = some (.slice a2 P.f2.length c2) ∧ V1_6.cell? ⟨w.heap.size, 3, none⟩ = some (.slice a3 P.f3.length c3) from ⟨qA.at rfl, qA.at rfl, qA.at rfl, qA.at rfl⟩)
      refine hK.out _ _ s9 (fun hHeld => ?_)
      clear hK K
      try simp only [Act.put, List.setIfInBounds_toArray, List.set_cons_zero, List.set_cons_succ]
      refine wpAnyH_ready (rs := [2, 10]) (by kernel_rfl) (by simp) ?_
      refine (AllReadyH.cons (List.getElem?_toArray.trans rfl) (fun K hK => ?q28_2) (AllReadyH.cons (List.getElem?_toArray.trans rfl) (fun K hK => ?q28_10) AllReadyH.nil))
      case q28_2 =>
        obtain ⟨V28_2, hV⟩ : ∃ W, V1_6.alloc (.cells #[] 3) = W := ⟨_, rfl⟩
        have hA : Below V1_6.heap.size V1_6 V28_2 := by rw [← hV]; exact (Below.refl _ _).alloc (Nat.le_refl _) _
        obtain ⟨g0, hg0⟩ : ∃ g, V1_6.heap.size = g := ⟨_, rfl⟩
        have e0 : Blk 3 g0 [] V28_2 := by rw [← hV, ← hg0]; exact Blk.new _ [] _
        have gb0 : w.heap.size + 2 ≤ g0 := by rw [← hg0]; exact hsz
        have m1_0 : g1 ≠ g0 := by have := e1.lt; omega
        have hgl0 : g0 ≤ V1_6.heap.size := by rw [← hg0]; exact Nat.le_refl _
        go_simp
        try rw [hV]
        try rw [hg0]
        have e1 := e1.below hA
        have qA := qA.below hA
        have qR := qR.below hA
        have hr0 := hr0.below hA
        have hr1 := hr1.below hA
        have hr2 := hr2.below hA
        have hB := hB.trans (hA.mono hB.size)
        have hsz : w.heap.size + 2 ≤ V28_2.heap.size := Nat.le_trans hsz hA.size
        clear hA hV hg0 hgl0
        have s9 := (show V28_2.cell? ⟨w.heap.size, 0, none⟩ = some (.int .i64 P.f0) ∧ V28_2.cell? ⟨w.heap.size, 1, none⟩ = some (.slice a1 P.f1.length c1) ∧ V28_2.cell? ⟨w.heap.size, 2, none⟩ = some (.slice a2 P.f2.length c2) ∧ V28_2.cell? ⟨w.heap.size, 3, none⟩ = some (.slice a3 P.f3.length c3) from ⟨qA.at rfl, qA.at rfl, qA.at rfl, qA.at rfl⟩)
        refine hK.out _ _ s9 (fun hHeld => ?_)
        clear hK K
        try simp only [Act.put, List.setIfInBounds_toArray, List.set_cons_zero, List.set_cons_succ]
        refine wpAnyH_ready (rs := [5, 10]) (by kernel_rfl) (by simp) ?_
        refine (AllReadyH.cons (List.getElem?_toArray.trans rfl) (fun K hK => ?q29_5) (AllReadyH.cons (List.getElem?_toArray.trans rfl) (fun K hK => ?q29_10) AllReadyH.nil))
        case q29_5 =>
          refine step_copy rfl _ _ 25 rfl 3 i0 _ 8 Try.underlying25 hi0 hz0 hz1 hz2 rfl (by omega) g0 e0 rfl 0 w.heap.size (a1) (P.f1.length) c1 (P.f1) rfl hr0 (by omega) ?_
          intro x0 y0 p0 V29_5 r0 hp hz hk hb
          have hA := hb (w.heap.size + 2) gb0
          have pb0 : w.heap.size + 2 ≤ p0 := by rcases hp with h | h <;> omega
          have m0_1 : p0 ≠ g1 := by have := e1.lt; omega
          have e1 : Blk 3 g1 [] V29_5 := (hk g1 e1.lt (by omega)).trans e1
          have qA := qA.under hA (by omega)
          have qR := qR.under hA (by omega)
          have hr0 := hr0.under hA (by omega)
          have hr1 := hr1.under hA (by omega)
          have hr2 := hr2.under hA (by omega)
          have hB := hB.trans (hA.mono (by omega))
          have hsz : w.heap.size + 2 ≤ V29_5.heap.size := Nat.le_trans hsz hz
          clear hA hk hb hz hp
          have s9 := (show V29_5.cell? ⟨w.heap.size, 0, none⟩ = some (.int .i64 P.f0) ∧ V29_5.cell? ⟨w.heap.size, 1, none⟩ = some (.slice a1 P.f1.length c1) ∧ V29_5.cell? ⟨w.heap.size, 2, none⟩ = some (.slice a2 P.f2.length c2) ∧ V29_5.cell? ⟨w.heap.size, 3, none⟩ = some (.slice a3 P.f3.length c3) from ⟨qA.at rfl, qA.at rfl, qA.at rfl, qA.at rfl⟩)
          refine hK.out _ _ s9 (fun hHeld => ?_)
          clear hK K
          try simp only [Act.put, List.setIfInBounds_toArray, List.set_cons_zero, List.set_cons_succ]
          refine wpAnyH_ready (rs := [9, 10]) (by kernel_rfl) (by simp) ?_
          refine (AllReadyH.cons (List.getElem?_toArray.trans rfl) (fun K hK => ?q30_9) (AllReadyH.cons (List.getElem?_toArray.trans rfl) (fun K hK => ?q30_10) AllReadyH.nil))
          case q30_9 =>
            refine step_copy rfl _ _ 25 rfl 3 i0 _ 8 Try.underlying25 hi0 hz0 hz1 hz2 rfl (by omega) g1 e1 rfl 0 w.heap.size (a2) (P.f2.length) c2 (P.f2) rfl hr1 (by omega) ?_
            intro x1 y1 p1 V30_9 r1 hp hz hk hb
            have hA := hb (w.heap.size + 2) gb1
            have pb1 : w.heap.size + 2 ≤ p1 := by rcases hp with h | h <;> omega
            have n0_1 : p0 ≠ p1 := by have := r0.lt; omega
            have r0 := r0.keep (hk p0 r0.lt (by omega))
            have qA := qA.under hA (by omega)
            have qR := qR.under hA (by omega)
            have hr0 := hr0.under hA (by omega)
            have hr1 := hr1.under hA (by omega)
            have hr2 := hr2.under hA (by omega)
            have hB := hB.trans (hA.mono (by omega))
            have hsz : w.heap.size + 2 ≤ V30_9.heap.size := Nat.le_trans hsz hz
            clear hA hk hb hz hp
            have s9 := (show V30_9.cell? ⟨w.heap.size, 0, none⟩ = some (.int .i64 P.f0) ∧ V30_9.cell? ⟨w.heap.size, 1, none⟩ = some (.slice a1 P.f1.length c1) ∧ V30_9.cell? ⟨w.heap.size, 2, none⟩ = some (.slice a2 P.f2.length c2) ∧ V30_9.cell? ⟨w.heap.size, 3, none⟩ = some (.slice a3 P.f3.length c3) from ⟨qA.at rfl, qA.at rfl, qA.at rfl, qA.at rfl⟩)
            refine hK.out _ _ s9 (fun hHeld => ?_)
            clear hK K
            try simp only [Act.put, List.setIfInBounds_toArray, List.set_cons_zero, List.set_cons_succ]
            refine wpAnyH_ready (rs := [10]) (by kernel_rfl) (by simp) ?_
            refine (AllReadyH.cons (List.getElem?_toArray.trans rfl) (fun K hK => ?q31_10) AllReadyH.nil)
            case q31_10 =>
              obtain ⟨V31_10, hV⟩ : ∃ W, V30_9.alloc (.cells #[] 3) = W := ⟨_, rfl⟩
              have hA : Below V30_9.heap.size V30_9 V31_10 := by rw [← hV]; exact (Below.refl _ _).alloc (Nat.le_refl _) _
              obtain ⟨g2, hg2⟩ : ∃ g, V30_9.heap.size = g := ⟨_, rfl⟩
              have e2 : Blk 3 g2 [] V31_10 := by rw [← hV, ← hg2]; exact Blk.new _ [] _
              have gb2 : w.heap.size + 2 ≤ g2 := by rw [← hg2]; exact hsz
              have m0_2 : p0 ≠ g2 := by have := r0.lt; omega
              have m1_2 : p1 ≠ g2 := by have := r1.lt; omega
              have hgl2 : g2 ≤ V30_9.heap.size := by rw [← hg2]; exact Nat.le_refl _
              go_simp
              try rw [hV]
              try rw [hg2]
              have r0 := r0.below hA
              have r1 := r1.below hA
              have qA := qA.below hA
              have qR := qR.below hA
              have hr0 := hr0.below hA
              have hr1 := hr1.below hA
              have hr2 := hr2.below hA
              have hB := hB.trans (hA.mono hB.size)
              have hsz : w.heap.size + 2 ≤ V31_10.heap.size := Nat.le_trans hsz hA.size
              clear hA hV hg2 hgl2
              have s9 := (show V31_10.cell? ⟨w.heap.size, 0, none⟩ = some (.int .i64 P.f0) ∧ V31_10.cell? ⟨w.heap.size, 1, none⟩ = some (.slice a1 P.f1.length c1) ∧ V31_10.cell? ⟨w.heap.size, 2, none⟩ = some (.slice a2 P.f2.length c2) ∧ V31_10.cell? ⟨w.heap.size, 3, none⟩ = some (.slice a3 P.f3.length c3) from ⟨qA.at rfl, qA.at rfl, qA.at rfl, qA.at rfl⟩)
              refine hK.out _ _ s9 (fun hHeld => ?_)
              clear hK K
              try simp only [Act.put, List.setIfInBounds_toArray, List.set_cons_zero, List.set_cons_succ]
              refine wpAnyH_ready (rs := [13]) (by kernel_rfl) (by simp) ?_
              refine (AllReadyH.cons (List.getElem?_toArray.trans rfl) (fun K hK => ?q32_13) AllReadyH.nil)
              case q32_13 =>
                refine step_copy rfl _ _ 25 rfl 3 i0 _ 8 Try.underlying25 hi0 hz0 hz1 hz2 rfl (by omega) g2 e2 rfl 0 w.heap.size (a3) (P.f3.length) c3 (P.f3) rfl hr2 (by omega) ?_
                intro x2 y2 p2 V32_13 r2 hp hz hk hb
                have hA := hb (w.heap.size + 2) gb2
                have pb2 : w.heap.size + 2 ≤ p2 := by rcases hp with h | h <;> omega
                have n0_2 : p0 ≠ p2 := by have := r0.lt; omega
                have n1_2 : p1 ≠ p2 := by have := r1.lt; omega
                have r0 := r0.keep (hk p0 r0.lt (by omega))
                have r1 := r1.keep (hk p1 r1.lt (by omega))
                have qA := qA.under hA (by omega)
                have qR := qR.under hA (by omega)
                have hr0 := hr0.under hA (by omega)
                have hr1 := hr1.under hA (by omega)
                have hr2 := hr2.under hA (by omega)
                have hB := hB.trans (hA.mono (by omega))
                have hsz : w.heap.size + 2 ≤ V32_13.heap.size := Nat.le_trans hsz hz
                clear hA hk hb hz hp
                have s9 := (show V32_13.cell? ⟨w.heap.size, 0, none⟩ = some (.int .i64 P.f0) ∧ V32_13.cell? ⟨w.heap.size, 1, none⟩ = some (.slice a1 P.f1.length c1) ∧ V32_13.cell? ⟨w.heap.size, 2, none⟩ = some (.slice a2 P.f2.length c2) ∧ V32_13.cell? ⟨w.heap.size, 3, none⟩ = some (.slice a3 P.f3.length c3) from ⟨qA.at rfl, qA.at rfl, qA.at rfl, qA.at rfl⟩)
                refine hK.out _ _ s9 (fun hHeld => ?_)
                clear hK K
                try simp only [Act.put, List.setIfInBounds_toArray, List.set_cons_zero, List.set_cons_succ]
                refine wpAnyH_take (i := 14) (v := ?vb9) (List.getElem?_toArray.trans rfl) (by kernel_rfl) (by kernel_rfl) (by kernel_rfl) (fun _ _ _ h => h) (Or.inl ⟨by rfl, ?yb9⟩) (by assumption) ?rb9
                case yb9 => (intro w hSw; (try dsimp only at hSw); go_simp; try with_reducible rfl)
                try simp only [Act.put, List.setIfInBounds_toArray, List.set_cons_zero, List.set_cons_succ]
                refine wpAnyH_ready (rs := [15]) (by kernel_rfl) (by simp) ?_
                refine AllReadyH.cons (List.getElem?_toArray.trans rfl) (fun K hK => ?_) AllReadyH.nil
                have z0 := qR.at (x := 0) rfl
                have z1 := qR.at (x := 1) rfl
                have z2 := qR.at (x := 2) rfl
                have z3 := qR.at (x := 3) rfl
                have d0 := qR.free 0
                have d1 := qR.free 1
                have d2 := qR.free 2
                have d3 := qR.free 3
                have qF := (((qR.set 0 (.int .i64 P.f0)).set 1 (.slice x0 P.f1.length y0)).set 2 (.slice x1 P.f2.length y1)).set 3 (.slice x2 P.f3.length y2)
                simp only [List.set_cons_zero, List.set_cons_succ] at qF
                have pA := (((qA.other (a := ⟨w.heap.size + 1, 0, none⟩) (.int .i64 P.f0) (by dsimp only; omega)).other (a := ⟨w.heap.size + 1, 1, none⟩) (.slice x0 P.f1.length y0) (by dsimp only; omega)).other (a := ⟨w.heap.size + 1, 2, none⟩) (.slice x1 P.f2.length y1) (by dsimp only; omega)).other (a := ⟨w.heap.size + 1, 3, none⟩) (.slice x2 P.f3.length y2) (by dsimp only; omega)
                have t0 := (((r0.other (q := ⟨w.heap.size + 1, 0, none⟩) (.int .i64 P.f0) (by dsimp only; omega)).other (q := ⟨w.heap.size + 1, 1, none⟩) (.slice x0 P.f1.length y0) (by dsimp only; omega)).other (q := ⟨w.heap.size + 1, 2, none⟩) (.slice x1 P.f2.length y1) (by dsimp only; omega)).other (q := ⟨w.heap.size + 1, 3, none⟩) (.slice x2 P.f3.length y2) (by dsimp only; omega)
                have t1 := (((r1.other (q := ⟨w.heap.size + 1, 0, none⟩) (.int .i64 P.f0) (by dsimp only; omega)).other (q := ⟨w.heap.size + 1, 1, none⟩) (.slice x0 P.f1.length y0) (by dsimp only; omega)).other (q := ⟨w.heap.size + 1, 2, none⟩) (.slice x1 P.f2.length y1) (by dsimp only; omega)).other (q := ⟨w.heap.size + 1, 3, none⟩) (.slice x2 P.f3.length y2) (by dsimp only; omega)
                have t2 := (((r2.other (q := ⟨w.heap.size + 1, 0, none⟩) (.int .i64 P.f0) (by dsimp only; omega)).other (q := ⟨w.heap.size + 1, 1, none⟩) (.slice x0 P.f1.length y0) (by dsimp only; omega)).other (q := ⟨w.heap.size + 1, 2, none⟩) (.slice x1 P.f2.length y1) (by dsimp only; omega)).other (q := ⟨w.heap.size + 1, 3, none⟩) (.slice x2 P.f3.length y2) (by dsimp only; omega)
                have hF := (((hB.setCell (p := ⟨w.heap.size + 1, 0, none⟩) (by dsimp only; omega) (.int .i64 P.f0)).setCell (p := ⟨w.heap.size + 1, 1, none⟩) (by dsimp only; omega) (.slice x0 P.f1.length y0)).setCell (p := ⟨w.heap.size + 1, 2, none⟩) (by dsimp only; omega) (.slice x1 P.f2.length y1)).setCell (p := ⟨w.heap.size + 1, 3, none⟩) (by dsimp only; omega) (.slice x2 P.f3.length y2)
                go_simp
                obtain ⟨VF, hVF⟩ : ∃ VF, (((V32_13.setCell ⟨w.heap.size + 1, 0, none⟩ (.int .i64 P.f0)).setCell ⟨w.heap.size + 1, 1, none⟩ (.slice x0 P.f1.length y0)).setCell ⟨w.heap.size + 1, 2, none⟩ (.slice x1 P.f2.length y1)).setCell ⟨w.heap.size + 1, 3, none⟩ (.slice x2 P.f3.length y2) = VF := ⟨_, rfl⟩
                rw [hVF] at qF pA hF t0 t1 t2 ⊢
                have s9 : VF.cell? ⟨w.heap.size, 0, none⟩ = some (.int .i64 P.f0) ∧ VF.cell? ⟨w.heap.size, 1, none⟩ = some (.slice a1 P.f1.length c1) ∧ VF.cell? ⟨w.heap.size, 2, none⟩ = some (.slice a2 P.f2.length c2) ∧ VF.cell? ⟨w.heap.size, 3, none⟩ = some (.slice a3 P.f3.length c3) := ⟨pA.at rfl, pA.at rfl, pA.at rfl, pA.at rfl⟩
                refine hK.out _ _ s9 (fun hHeld => ?_)
                clear hK K
                try simp only [Act.put, List.setIfInBounds_toArray, List.set_cons_zero, List.set_cons_succ]
                refine wpAnyH_done (by kernel_rfl) ?_ _
                go_wp2_with fail
                go_meet
                case rel => exact ⟨_, rfl, rfl, x0, y0, p0, x1, y1, p1, x2, y2, p2, qF, t0, t1, t2, pb0, pb1, pb2, n0_1, n0_2, n1_2, hF⟩
          case q30_10 =>
            obtain ⟨V30_10, hV⟩ : ∃ W, V29_5.alloc (.cells #[] 3) = W := ⟨_, rfl⟩
            have hA : Below V29_5.heap.size V29_5 V30_10 := by rw [← hV]; exact (Below.refl _ _).alloc (Nat.le_refl _) _
            obtain ⟨g2, hg2⟩ : ∃ g, V29_5.heap.size = g := ⟨_, rfl⟩
            have e2 : Blk 3 g2 [] V30_10 := by rw [← hV, ← hg2]; exact Blk.new _ [] _
            have gb2 : w.heap.size + 2 ≤ g2 := by rw [← hg2]; exact hsz
            have m1_2 : g1 ≠ g2 := by have := e1.lt; omega
            have m0_2 : p0 ≠ g2 := by have := r0.lt; omega
            have hgl2 : g2 ≤ V29_5.heap.size := by rw [← hg2]; exact Nat.le_refl _
            go_simp
            try rw [hV]
            try rw [hg2]
            have e1 := e1.below hA
            have r0 := r0.below hA
            have qA := qA.below hA
            have qR := qR.below hA
            have hr0 := hr0.below hA
            have hr1 := hr1.below hA
            have hr2 := hr2.below hA
            have hB := hB.trans (hA.mono hB.size)
            have hsz : w.heap.size + 2 ≤ V30_10.heap.size := Nat.le_trans hsz hA.size
            clear hA hV hg2 hgl2
            have s9 := (show V30_10.cell? ⟨w.heap.size, 0, none⟩ = some (.int .i64 P.f0) ∧ V30_10.cell? ⟨w.heap.size, 1, none⟩ = some (.slice a1 P.f1.length c1) ∧ V30_10.cell? ⟨w.heap.size, 2, none⟩ = some (.slice a2 P.f2.length c2) ∧ V30_10.cell? ⟨w.heap.size, 3, none⟩ = some (.slice a3 P.f3.length c3) from ⟨qA.at rfl, qA.at rfl, qA.at rfl, qA.at rfl⟩)
            refine hK.out _ _ s9 (fun hHeld => ?_)
            clear hK K
            try simp only [Act.put, List.setIfInBounds_toArray, List.set_cons_zero, List.set_cons_succ]
            refine wpAnyH_ready (rs := [9]) (by kernel_rfl) (by simp) ?_
            refine (AllReadyH.cons (List.getElem?_toArray.trans rfl) (fun K hK => ?q33_9) AllReadyH.nil)
            case q33_9 =>
              refine step_copy rfl _ _ 25 rfl 3 i0 _ 8 Try.underlying25 hi0 hz0 hz1 hz2 rfl (by omega) g1 e1 rfl 0 w.heap.size (a2) (P.f2.length) c2 (P.f2) rfl hr1 (by omega) ?_
              intro x1 y1 p1 V33_9 r1 hp hz hk hb
              have hA := hb (w.heap.size + 2) gb1
              have pb1 : w.heap.size + 2 ≤ p1 := by rcases hp with h | h <;> omega
              have m1_2 : p1 ≠ g2 := by have := e2.lt; omega
              have n0_1 : p0 ≠ p1 := by have := r0.lt; omega
              have e2 : Blk 3 g2 [] V33_9 := (hk g2 e2.lt (by omega)).trans e2
              have r0 := r0.keep (hk p0 r0.lt (by omega))
              have qA := qA.under hA (by omega)
              have qR := qR.under hA (by omega)
              have hr0 := hr0.under hA (by omega)
              have hr1 := hr1.under hA (by omega)
              have hr2 := hr2.under hA (by omega)
              have hB := hB.trans (hA.mono (by omega))
              have hsz : w.heap.size + 2 ≤ V33_9.heap.size := Nat.le_trans hsz hz
              clear hA hk hb hz hp
              have s9 := (show V33_9.cell? ⟨w.heap.size, 0, none⟩ = some (.int .i64 P.f0) ∧ V33_9.cell? ⟨w.heap.size, 1, none⟩ = some (.slice a1 P.f1.length c1) ∧ V33_9.cell? ⟨w.heap.size, 2, none⟩ = some (.slice a2 P.f2.length c2) ∧ V33_9.cell? ⟨w.heap.size, 3, none⟩ = some (.slice a3 P.f3.length c3) from ⟨qA.at rfl, qA.at rfl, qA.at rfl, qA.at rfl⟩)
              refine hK.out _ _ s9 (fun hHeld => ?_)
              clear hK K
              try simp only [Act.put, List.setIfInBounds_toArray, List.set_cons_zero, List.set_cons_succ]
              refine wpAnyH_ready (rs := [13]) (by kernel_rfl) (by simp) ?_
              refine (AllReadyH.cons (List.getElem?_toArray.trans rfl) (fun K hK => ?q34_13) AllReadyH.nil)
              case q34_13 =>
                refine step_copy rfl _ _ 25 rfl 3 i0 _ 8 Try.underlying25 hi0 hz0 hz1 hz2 rfl (by omega) g2 e2 rfl 0 w.heap.size (a3) (P.f3.length) c3 (P.f3) rfl hr2 (by omega) ?_
                intro x2 y2 p2 V34_13 r2 hp hz hk hb
                have hA := hb (w.heap.size + 2) gb2
                have pb2 : w.heap.size + 2 ≤ p2 := by rcases hp with h | h <;> omega
                have n0_2 : p0 ≠ p2 := by have := r0.lt; omega
                have n1_2 : p1 ≠ p2 := by have := r1.lt; omega
                have r0 := r0.keep (hk p0 r0.lt (by omega))
                have r1 := r1.keep (hk p1 r1.lt (by omega))
                have qA := qA.under hA (by omega)
                have qR := qR.under hA (by omega)
                have hr0 := hr0.under hA (by omega)
                have hr1 := hr1.under hA (by omega)
                have hr2 := hr2.under hA (by omega)
                have hB := hB.trans (hA.mono (by omega))
                have hsz : w.heap.size + 2 ≤ V34_13.heap.size := Nat.le_trans hsz hz
                clear hA hk hb hz hp
                have s9 := (show V34_13.cell? ⟨w.heap.size, 0, none⟩ = some (.int .i64 P.f0) ∧ V34_13.cell? ⟨w.heap.size, 1, none⟩ = some (.slice a1 P.f1.length c1) ∧ V34_13.cell? ⟨w.heap.size, 2, none⟩ = some (.slice a2 P.f2.length c2) ∧ V34_13.cell? ⟨w.heap.size, 3, none⟩ = some (.slice a3 P.f3.length c3) from ⟨qA.at rfl, qA.at rfl, qA.at rfl, qA.at rfl⟩)
                refine hK.out _ _ s9 (fun hHeld => ?_)
                clear hK K
                try simp only [Act.put, List.setIfInBounds_toArray, List.set_cons_zero, List.set_cons_succ]
                refine wpAnyH_take (i := 14) (v := ?vb10) (List.getElem?_toArray.trans rfl) (by kernel_rfl) (by kernel_rfl) (by kernel_rfl) (fun _ _ _ h => h) (Or.inl ⟨by rfl, ?yb10⟩) (by assumption) ?rb10
                case yb10 => (intro w hSw; (try dsimp only at hSw); go_simp; try with_reducible rfl)
                try simp only [Act.put, List.setIfInBounds_toArray, List.set_cons_zero, List.set_cons_succ]
                refine wpAnyH_ready (rs := [15]) (by kernel_rfl) (by simp) ?_
                refine AllReadyH.cons (List.getElem?_toArray.trans rfl) (fun K hK => ?_) AllReadyH.nil
                have z0 := qR.at (x := 0) rfl
                have z1 := qR.at (x := 1) rfl
                have z2 := qR.at (x := 2) rfl
                have z3 := qR.at (x := 3) rfl
                have d0 := qR.free 0
                have d1 := qR.free 1
                have d2 := qR.free 2
                have d3 := qR.free 3
                have qF := (((qR.set 0 (.int .i64 P.f0)).set 1 (.slice x0 P.f1.length y0)).set 2 (.slice x1 P.f2.length y1)).set 3 (.slice x2 P.f3.length y2)
                simp only [List.set_cons_zero, List.set_cons_succ] at qF
                have pA := (((qA.other (a := ⟨w.heap.size + 1, 0, none⟩) (.int .i64 P.f0) (by dsimp only; omega)).other (a := ⟨w.heap.size + 1, 1, none⟩) (.slice x0 P.f1.length y0) (by dsimp only; omega)).other (a := ⟨w.heap.size + 1, 2, none⟩) (.slice x1 P.f2.length y1) (by dsimp only; omega)).other (a := ⟨w.heap.size + 1, 3, none⟩) (.slice x2 P.f3.length y2) (by dsimp only; omega)
                have t0 := (((r0.other (q := ⟨w.heap.size + 1, 0, none⟩) (.int .i64 P.f0) (by dsimp only; omega)).other (q := ⟨w.heap.size + 1, 1, none⟩) (.slice x0 P.f1.length y0) (by dsimp only; omega)).other (q := ⟨w.heap.size + 1, 2, none⟩) (.slice x1 P.f2.length y1) (by dsimp only; omega)).other (q := ⟨w.heap.size + 1, 3, none⟩) (.slice x2 P.f3.length y2) (by dsimp only; omega)
                have t1 := (((r1.other (q := ⟨w.heap.size + 1, 0, none⟩) (.int .i64 P.f0) (by dsimp only; omega)).other (q := ⟨w.heap.size + 1, 1, none⟩) (.slice x0 P.f1.length y0) (by dsimp only; omega)).other (q := ⟨w.heap.size + 1, 2, none⟩) (.slice x1 P.f2.length y1) (by dsimp only; omega)).other (q := ⟨w.heap.size + 1, 3, none⟩) (.slice x2 P.f3.length y2) (by dsimp only; omega)
                have t2 := (((r2.other (q := ⟨w.heap.size + 1, 0, none⟩) (.int .i64 P.f0) (by dsimp only; omega)).other (q := ⟨w.heap.size + 1, 1, none⟩) (.slice x0 P.f1.length y0) (by dsimp only; omega)).other (q := ⟨w.heap.size + 1, 2, none⟩) (.slice x1 P.f2.length y1) (by dsimp only; omega)).other (q := ⟨w.heap.size + 1, 3, none⟩) (.slice x2 P.f3.length y2) (by dsimp only; omega)
                have hF := (((hB.setCell (p := ⟨w.heap.size + 1, 0, none⟩) (by dsimp only; omega) (.int .i64 P.f0)).setCell (p := ⟨w.heap.size + 1, 1, none⟩) (by dsimp only; omega) (.slice x0 P.f1.length y0)).setCell (p := ⟨w.heap.size + 1, 2, none⟩) (by dsimp only; omega) (.slice x1 P.f2.length y1)).setCell (p := ⟨w.heap.size + 1, 3, none⟩) (by dsimp only; omega) (.slice x2 P.f3.length y2)
                go_simp
                obtain ⟨VF, hVF⟩ : ∃ VF, (((V34_13.setCell ⟨w.heap.size + 1, 0, none⟩ (.int .i64 P.f0)).setCell ⟨w.heap.size + 1, 1, none⟩ (.slice x0 P.f1.length y0)).setCell ⟨w.heap.size + 1, 2, none⟩ (.slice x1 P.f2.length y1)).setCell ⟨w.heap.size + 1, 3, none⟩ (.slice x2 P.f3.length y2) = VF := ⟨_, rfl⟩
                rw [hVF] at qF pA hF t0 t1 t2 ⊢
                have s9 : VF.cell? ⟨w.heap.size, 0, none⟩ = some (.int .i64 P.f0) ∧ VF.cell? ⟨w.heap.size, 1, none⟩ = some (.slice a1 P.f1.length c1) ∧ VF.cell? ⟨w.heap.size, 2, none⟩ = some (.slice a2 P.f2.length c2) ∧ VF.cell? ⟨w.heap.size, 3, none⟩ = some (.slice a3 P.f3.length c3) := ⟨pA.at rfl, pA.at rfl, pA.at rfl, pA.at rfl⟩
                refine hK.out _ _ s9 (fun hHeld => ?_)
                clear hK K
                try simp only [Act.put, List.setIfInBounds_toArray, List.set_cons_zero, List.set_cons_succ]
                refine wpAnyH_done (by kernel_rfl) ?_ _
                go_wp2_with fail
                go_meet
                case rel => exact ⟨_, rfl, rfl, x0, y0, p0, x1, y1, p1, x2, y2, p2, qF, t0, t1, t2, pb0, pb1, pb2, n0_1, n0_2, n1_2, hF⟩
        case q29_10 =>
          obtain ⟨V29_10, hV⟩ : ∃ W, V28_2.alloc (.cells #[] 3) = W := ⟨_, rfl⟩
          have hA : Below V28_2.heap.size V28_2 V29_10 := by rw [← hV]; exact (Below.refl _ _).alloc (Nat.le_refl _) _
          obtain ⟨g2, hg2⟩ : ∃ g, V28_2.heap.size = g := ⟨_, rfl⟩
          have e2 : Blk 3 g2 [] V29_10 := by rw [← hV, ← hg2]; exact Blk.new _ [] _
          have gb2 : w.heap.size + 2 ≤ g2 := by rw [← hg2]; exact hsz
          have m0_2 : g0 ≠ g2 := by have := e0.lt; omega
          have m1_2 : g1 ≠ g2 := by have := e1.lt; omega
          have hgl2 : g2 ≤ V28_2.heap.size := by rw [← hg2]; exact Nat.le_refl _
          go_simp
          try rw [hV]
          try rw [hg2]
          have e0 := e0.below hA
          have e1 := e1.below hA
          have qA := qA.below hA
          have qR := qR.below hA
          have hr0 := hr0.below hA
          have hr1 := hr1.below hA
          have hr2 := hr2.below hA
          have hB := hB.trans (hA.mono hB.size)
          have hsz : w.heap.size + 2 ≤ V29_10.heap.size := Nat.le_trans hsz hA.size
          clear hA hV hg2 hgl2
          have s9 := (show V29_10.cell? ⟨w.heap.size, 0, none⟩ = some (.int .i64 P.f0) ∧ V29_10.cell? ⟨w.heap.size, 1, none⟩ = some (.slice a1 P.f1.length c1) ∧ V29_10.cell? ⟨w.heap.size, 2, none⟩ = some (.slice a2 P.f2.length c2) ∧ V29_10.cell? ⟨w.heap.size, 3, none⟩ = some (.slice a3 P.f3.length c3) from ⟨qA.at rfl, qA.at rfl, qA.at rfl, qA.at rfl⟩)
          refine hK.out _ _ s9 (fun hHeld => ?_)
          clear hK K
          try simp only [Act.put, List.setIfInBounds_toArray, List.set_cons_zero, List.set_cons_succ]
          refine wpAnyH_ready (rs := [5]) (by kernel_rfl) (by simp) ?_
          refine (AllReadyH.cons (List.getElem?_toArray.trans rfl) (fun K hK => ?q35_5) AllReadyH.nil)
          case q35_5 =>
            refine step_copy rfl _ _ 25 rfl 3 i0 _ 8 Try.underlying25 hi0 hz0 hz1 hz2 rfl (by omega) g0 e0 rfl 0 w.heap.size (a1) (P.f1.length) c1 (P.f1) rfl hr0 (by omega) ?_
            intro x0 y0 p0 V35_5 r0 hp hz hk hb
            have hA := hb (w.heap.size + 2) gb0
            have pb0 : w.heap.size + 2 ≤ p0 := by rcases hp with h | h <;> omega
            have m0_1 : p0 ≠ g1 := by have := e1.lt; omega
            have m0_2 : p0 ≠ g2 := by have := e2.lt; omega
            have e1 : Blk 3 g1 [] V35_5 := (hk g1 e1.lt (by omega)).trans e1
            have e2 : Blk 3 g2 [] V35_5 := (hk g2 e2.lt (by omega)).trans e2
            have qA := qA.under hA (by omega)
            have qR := qR.under hA (by omega)
            have hr0 := hr0.under hA (by omega)
            have hr1 := hr1.under hA (by omega)
            have hr2 := hr2.under hA (by omega)
            have hB := hB.trans (hA.mono (by omega))
            have hsz : w.heap.size + 2 ≤ V35_5.heap.size := Nat.le_trans hsz hz
            clear hA hk hb hz hp
            have s9 := (show V35_5.cell? ⟨w.heap.size, 0, none⟩ = some (.int .i64 P.f0) ∧ V35_5.cell? ⟨w.heap.size, 1, none⟩ = some (.slice a1 P.f1.length c1) ∧ V35_5.cell? ⟨w.heap.size, 2, none⟩ = some (.slice a2 P.f2.length c2) ∧ V35_5.cell? ⟨w.heap.size, 3, none⟩ = some (.slice a3 P.f3.length c3) from ⟨qA.at rfl, qA.at rfl, qA.at rfl, qA.at rfl⟩)
            refine hK.out _ _ s9 (fun hHeld => ?_)
            clear hK K
            try simp only [Act.put, List.setIfInBounds_toArray, List.set_cons_zero, List.set_cons_succ]
            refine wpAnyH_ready (rs := [9]) (by kernel_rfl) (by simp) ?_
            refine (AllReadyH.cons (List.getElem?_toArray.trans rfl) (fun K hK => ?q36_9) AllReadyH.nil)
            case q36_9 =>
              refine step_copy rfl _ _ 25 rfl 3 i0 _ 8 Try.underlying25 hi0 hz0 hz1 hz2 rfl (by omega) g1 e1 rfl 0 w.heap.size (a2) (P.f2.length) c2 (P.f2) rfl hr1 (by omega) ?_
              intro x1 y1 p1 V36_9 r1 hp hz hk hb
              have hA := hb (w.heap.size + 2) gb1
              have pb1 : w.heap.size + 2 ≤ p1 := by rcases hp with h | h <;> omega
              have m1_2 : p1 ≠ g2 := by have := e2.lt; omega
              have n0_1 : p0 ≠ p1 := by have := r0.lt; omega
              have e2 : Blk 3 g2 [] V36_9 := (hk g2 e2.lt (by omega)).trans e2
              have r0 := r0.keep (hk p0 r0.lt (by omega))
              have qA := qA.under hA (by omega)
              have qR := qR.under hA (by omega)
              have hr0 := hr0.under hA (by omega)
              have hr1 := hr1.under hA (by omega)
              have hr2 := hr2.under hA (by omega)
              have hB := hB.trans (hA.mono (by omega))
              have hsz : w.heap.size + 2 ≤ V36_9.heap.size := Nat.le_trans hsz hz
              clear hA hk hb hz hp
              have s9 := (show V36_9.cell? ⟨w.heap.size, 0, none⟩ = some (.int .i64 P.f0) ∧ V36_9.cell? ⟨w.heap.size, 1, none⟩ = some (.slice a1 P.f1.length c1) ∧ V36_9.cell? ⟨w.heap.size, 2, none⟩ = some (.slice a2 P.f2.length c2) ∧ V36_9.cell? ⟨w.heap.size, 3, none⟩ = some (.slice a3 P.f3.length c3) from ⟨qA.at rfl, qA.at rfl, qA.at rfl, qA.at rfl⟩)
              refine hK.out _ _ s9 (fun hHeld => ?_)
              clear hK K
              try simp only [Act.put, List.setIfInBounds_toArray, List.set_cons_zero, List.set_cons_succ]
              refine wpAnyH_ready (rs := [13]) (by kernel_rfl) (by simp) ?_
              refine (AllReadyH.cons (List.getElem?_toArray.trans rfl) (fun K hK => ?q37_13) AllReadyH.nil)
              case q37_13 =>
                refine step_copy rfl _ _ 25 rfl 3 i0 _ 8 Try.underlying25 hi0 hz0 hz1 hz2 rfl (by omega) g2 e2 rfl 0 w.heap.size (a3) (P.f3.length) c3 (P.f3) rfl hr2 (by omega) ?_
                intro x2 y2 p2 V37_13 r2 hp hz hk hb
                have hA := hb (w.heap.size + 2) gb2
                have pb2 : w.heap.size + 2 ≤ p2 := by rcases hp with h | h <;> omega
                have n0_2 : p0 ≠ p2 := by have := r0.lt; omega
                have n1_2 : p1 ≠ p2 := by have := r1.lt; omega
                have r0 := r0.keep (hk p0 r0.lt (by omega))
                have r1 := r1.keep (hk p1 r1.lt (by omega))
                have qA := qA.under hA (by omega)
                have qR := qR.under hA (by omega)
                have hr0 := hr0.under hA (by omega)
                have hr1 := hr1.under hA (by omega)
                have hr2 := hr2.under hA (by omega)
                have hB := hB.trans (hA.mono (by omega))
                have hsz : w.heap.size + 2 ≤ V37_13.heap.size := Nat.le_trans hsz hz
                clear hA hk hb hz hp
                have s9 := (show V37_13.cell? ⟨w.heap.size, 0, none⟩ = some (.int .i64 P.f0) ∧ V37_13.cell? ⟨w.heap.size, 1, none⟩ = some (.slice a1 P.f1.length c1) ∧ V37_13.cell? ⟨w.heap.size, 2, none⟩ = some (.slice a2 P.f2.length c2) ∧ V37_13.cell? ⟨w.heap.size, 3, none⟩ = some (.slice a3 P.f3.length c3) from ⟨qA.at rfl, qA.at rfl, qA.at rfl, qA.at rfl⟩)
                refine hK.out _ _ s9 (fun hHeld => ?_)
                clear hK K
                try simp only [Act.put, List.setIfInBounds_toArray, List.set_cons_zero, List.set_cons_succ]
                refine wpAnyH_take (i := 14) (v := ?vb11) (List.getElem?_toArray.trans rfl) (by kernel_rfl) (by kernel_rfl) (by kernel_rfl) (fun _ _ _ h => h) (Or.inl ⟨by rfl, ?yb11⟩) (by assumption) ?rb11
                case yb11 => (intro w hSw; (try dsimp only at hSw); go_simp; try with_reducible rfl)
                try simp only [Act.put, List.setIfInBounds_toArray, List.set_cons_zero, List.set_cons_succ]
                refine wpAnyH_ready (rs := [15]) (by kernel_rfl) (by simp) ?_
                refine AllReadyH.cons (List.getElem?_toArray.trans rfl) (fun K hK => ?_) AllReadyH.nil
                have z0 := qR.at (x := 0) rfl
                have z1 := qR.at (x := 1) rfl
                have z2 := qR.at (x := 2) rfl
                have z3 := qR.at (x := 3) rfl
                have d0 := qR.free 0
                have d1 := qR.free 1
                have d2 := qR.free 2
                have d3 := qR.free 3
                have qF := (((qR.set 0 (.int .i64 P.f0)).set 1 (.slice x0 P.f1.length y0)).set 2 (.slice x1 P.f2.length y1)).set 3 (.slice x2 P.f3.length y2)
                simp only [List.set_cons_zero, List.set_cons_succ] at qF
                have pA := (((qA.other (a := ⟨w.heap.size + 1, 0, none⟩) (.int .i64 P.f0) (by dsimp only; omega)).other (a := ⟨w.heap.size + 1, 1, none⟩) (.slice x0 P.f1.length y0) (by dsimp only; omega)).other (a := ⟨w.heap.size + 1, 2, none⟩) (.slice x1 P.f2.length y1) (by dsimp only; omega)).other (a := ⟨w.heap.size + 1, 3, none⟩) (.slice x2 P.f3.length y2) (by dsimp only; omega)
                have t0 := (((r0.other (q := ⟨w.heap.size + 1, 0, none⟩) (.int .i64 P.f0) (by dsimp only; omega)).other (q := ⟨w.heap.size + 1, 1, none⟩) (.slice x0 P.f1.length y0) (by dsimp only; omega)).other (q := ⟨w.heap.size + 1, 2, none⟩) (.slice x1 P.f2.length y1) (by dsimp only; omega)).other (q := ⟨w.heap.size + 1, 3, none⟩) (.slice x2 P.f3.length y2) (by dsimp only; omega)
                have t1 := (((r1.other (q := ⟨w.heap.size + 1, 0, none⟩) (.int .i64 P.f0) (by dsimp only; omega)).other (q := ⟨w.heap.size + 1, 1, none⟩) (.slice x0 P.f1.length y0) (by dsimp only; omega)).other (q := ⟨w.heap.size + 1, 2, none⟩) (.slice x1 P.f2.length y1) (by dsimp only; omega)).other (q := ⟨w.heap.size + 1, 3, none⟩) (.slice x2 P.f3.length y2) (by dsimp only; omega)
                have t2 := (((r2.other (q := ⟨w.heap.size + 1, 0, none⟩) (.int .i64 P.f0) (by dsimp only; omega)).other (q := ⟨w.heap.size + 1, 1, none⟩) (.slice x0 P.f1.length y0) (by dsimp only; omega)).other (q := ⟨w.heap.size + 1, 2, none⟩) (.slice x1 P.f2.length y1) (by dsimp only; omega)).other (q := ⟨w.heap.size + 1, 3, none⟩) (.slice x2 P.f3.length y2) (by dsimp only; omega)
                have hF := (((hB.setCell (p := ⟨w.heap.size + 1, 0, none⟩) (by dsimp only; omega) (.int .i64 P.f0)).setCell (p := ⟨w.heap.size + 1, 1, none⟩) (by dsimp only; omega) (.slice x0 P.f1.length y0)).setCell (p := ⟨w.heap.size + 1, 2, none⟩) (by dsimp only; omega) (.slice x1 P.f2.length y1)).setCell (p := ⟨w.heap.size + 1, 3, none⟩) (by dsimp only; omega) (.slice x2 P.f3.length y2)
                go_simp
                obtain ⟨VF, hVF⟩ : ∃ VF, (((V37_13.setCell ⟨w.heap.size + 1, 0, none⟩ (.int .i64 P.f0)).setCell ⟨w.heap.size + 1, 1, none⟩ (.slice x0 P.f1.length y0)).setCell ⟨w.heap.size + 1, 2, none⟩ (.slice x1 P.f2.length y1)).setCell ⟨w.heap.size + 1, 3, none⟩ (.slice x2 P.f3.length y2) = VF := ⟨_, rfl⟩
                rw [hVF] at qF pA hF t0 t1 t2 ⊢
                have s9 : VF.cell? ⟨w.heap.size, 0, none⟩ = some (.int .i64 P.f0) ∧ VF.cell? ⟨w.heap.size, 1, none⟩ = some (.slice a1 P.f1.length c1) ∧ VF.cell? ⟨w.heap.size, 2, none⟩ = some (.slice a2 P.f2.length c2) ∧ VF.cell? ⟨w.heap.size, 3, none⟩ = some (.slice a3 P.f3.length c3) := ⟨pA.at rfl, pA.at rfl, pA.at rfl, pA.at rfl⟩
                refine hK.out _ _ s9 (fun hHeld => ?_)
                clear hK K
                try simp only [Act.put, List.setIfInBounds_toArray, List.set_cons_zero, List.set_cons_succ]
                refine wpAnyH_done (by kernel_rfl) ?_ _
                go_wp2_with fail
                go_meet
                case rel => exact ⟨_, rfl, rfl, x0, y0, p0, x1, y1, p1, x2, y2, p2, qF, t0, t1, t2, pb0, pb1, pb2, n0_1, n0_2, n1_2, hF⟩
      case q28_10 =>
        obtain ⟨V28_10, hV⟩ : ∃ W, V1_6.alloc (.cells #[] 3) = W := ⟨_, rfl⟩
        have hA : Below V1_6.heap.size V1_6 V28_10 := by rw [← hV]; exact (Below.refl _ _).alloc (Nat.le_refl _) _
        obtain ⟨g2, hg2⟩ : ∃ g, V1_6.heap.size = g := ⟨_, rfl⟩
        have e2 : Blk 3 g2 [] V28_10 := by rw [← hV, ← hg2]; exact Blk.new _ [] _
        have gb2 : w.heap.size + 2 ≤ g2 := by rw [← hg2]; exact hsz
        have m1_2 : g1 ≠ g2 := by have := e1.lt; omega
        have hgl2 : g2 ≤ V1_6.heap.size := by rw [← hg2]; exact Nat.le_refl _
        go_simp
        try rw [hV]
        try rw [hg2]
        have e1 := e1.below hA
        have qA := qA.below hA
        have qR := qR.below hA
        have hr0 := hr0.below hA
        have hr1 := hr1.below hA
        have hr2 := hr2.below hA
        have hB := hB.trans (hA.mono hB.size)
        have hsz : w.heap.size + 2 ≤ V28_10.heap.size := Nat.le_trans hsz hA.size
        clear hA hV hg2 hgl2
        have s9 := (show V28_10.cell? ⟨w.heap.size, 0, none⟩ = some (.int .i64 P.f0) ∧ V28_10.cell? ⟨w.heap.size, 1, none⟩ = some (.slice a1 P.f1.length c1) ∧ V28_10.cell? ⟨w.heap.size, 2, none⟩ = some (.slice a2 P.f2.length c2) ∧ V28_10.cell? ⟨w.heap.size, 3, none⟩ = some (.slice a3 P.f3.length c3) from ⟨qA.at rfl, qA.at rfl, qA.at rfl, qA.at rfl⟩)
        refine hK.out _ _ s9 (fun hHeld => ?_)
        clear hK K
        try simp only [Act.put, List.setIfInBounds_toArray, List.set_cons_zero, List.set_cons_succ]
        refine wpAnyH_ready (rs := [2]) (by kernel_rfl) (by simp) ?_
        refine (AllReadyH.cons (List.getElem?_toArray.trans rfl) (fun K hK => ?q38_2) AllReadyH.nil)
        case q38_2 =>
          obtain ⟨V38_2, hV⟩ : ∃ W, V28_10.alloc (.cells #[] 3) = W := ⟨_, rfl⟩
          have hA : Below V28_10.heap.size V28_10 V38_2 := by rw [← hV]; exact (Below.refl _ _).alloc (Nat.le_refl _) _
          obtain ⟨g0, hg0⟩ : ∃ g, V28_10.heap.size = g := ⟨_, rfl⟩
          have e0 : Blk 3 g0 [] V38_2 := by rw [← hV, ← hg0]; exact Blk.new _ [] _
          have gb0 : w.heap.size + 2 ≤ g0 := by rw [← hg0]; exact hsz
          have m1_0 : g1 ≠ g0 := by have := e1.lt; omega
          have m2_0 : g2 ≠ g0 := by have := e2.lt; omega
          have hgl0 : g0 ≤ V28_10.heap.size := by rw [← hg0]; exact Nat.le_refl _
          go_simp
          try rw [hV]
          try rw [hg0]
          have e1 := e1.below hA
          have e2 := e2.below hA
          have qA := qA.below hA
          have qR := qR.below hA
          have hr0 := hr0.below hA
          have hr1 := hr1.below hA
          have hr2 := hr2.below hA
          have hB := hB.trans (hA.mono hB.size)
          have hsz : w.heap.size + 2 ≤ V38_2.heap.size := Nat.le_trans hsz hA.size
          clear hA hV hg0 hgl0
          have s9 := (show V38_2.cell? ⟨w.heap.size, 0, none⟩ = some (.int .i64 P.f0) ∧ V38_2.cell? ⟨w.heap.size, 1, none⟩ = some (.slice a1 P.f1.length c1) ∧ V38_2.cell? ⟨w.heap.size, 2, none⟩ = some (.slice a2 P.f2.length c2) ∧ V38_2.cell? ⟨w.heap.size, 3, none⟩ = some (.slice a3 P.f3.length c3) from ⟨qA.at rfl, qA.at rfl, qA.at rfl, qA.at rfl⟩)
          refine hK.out _ _ s9 (fun hHeld => ?_)
          clear hK K
          try simp only [Act.put, List.setIfInBounds_toArray, List.set_cons_zero, List.set_cons_succ]
          refine wpAnyH_ready (rs := [5]) (by kernel_rfl) (by simp) ?_
          refine (AllReadyH.cons (List.getElem?_toArray.trans rfl) (fun K hK => ?q39_5) AllReadyH.nil)
          case q39_5 =>
            refine step_copy rfl _ _ 25 rfl 3 i0 _ 8 Try.underlying25 hi0 hz0 hz1 hz2 rfl (by omega) g0 e0 rfl 0 w.heap.size (a1) (P.f1.length) c1 (P.f1) rfl hr0 (by omega) ?_
            intro x0 y0 p0 V39_5 r0 hp hz hk hb
            have hA := hb (w.heap.size + 2) gb0
            have pb0 : w.heap.size + 2 ≤ p0 := by rcases hp with h | h <;> omega
            have m0_1 : p0 ≠ g1 := by have := e1.lt; omega
            have m0_2 : p0 ≠ g2 := by have := e2.lt; omega
            have e1 : Blk 3 g1 [] V39_5 := (hk g1 e1.lt (by omega)).trans e1
            have e2 : Blk 3 g2 [] V39_5 := (hk g2 e2.lt (by omega)).trans e2
            have qA := qA.under hA (by omega)
            have qR := qR.under hA (by omega)
            have hr0 := hr0.under hA (by omega)
            have hr1 := hr1.under hA (by omega)
            have hr2 := hr2.under hA (by omega)
            have hB := hB.trans (hA.mono (by omega))
            have hsz : w.heap.size + 2 ≤ V39_5.heap.size := Nat.le_trans hsz hz
            clear hA hk hb hz hp
            have s9 := (show V39_5.cell? ⟨w.heap.size, 0, none⟩ = some (.int .i64 P.f0) ∧ V39_5.cell? ⟨w.heap.size, 1, none⟩ = some (.slice a1 P.f1.length c1) ∧ V39_5.cell? ⟨w.heap.size, 2, none⟩ = some (.slice a2 P.f2.length c2) ∧ V39_5.cell? ⟨w.heap.size, 3, none⟩ = some (.slice a3 P.f3.length c3) from ⟨qA.at rfl, qA.at rfl, qA.at rfl, qA.at rfl⟩)
            refine hK.out _ _ s9 (fun hHeld => ?_)
            clear hK K
            try simp only [Act.put, List.setIfInBounds_toArray, List.set_cons_zero, List.set_cons_succ]
            refine wpAnyH_ready (rs := [9]) (by kernel_rfl) (by simp) ?_
            refine (AllReadyH.cons (List.getElem?_toArray.trans rfl) (fun K hK => ?q40_9) AllReadyH.nil)
            case q40_9 =>
              refine step_copy rfl _ _ 25 rfl 3 i0 _ 8 Try.underlying25 hi0 hz0 hz1 hz2 rfl (by omega) g1 e1 rfl 0 w.heap.size (a2) (P.f2.length) c2 (P.f2) rfl hr1 (by omega) ?_
              intro x1 y1 p1 V40_9 r1 hp hz hk hb
              have hA := hb (w.heap.size + 2) gb1
              have pb1 : w.heap.size + 2 ≤ p1 := by rcases hp with h | h <;> omega
              have m1_2 : p1 ≠ g2 := by have := e2.lt; omega
              have n0_1 : p0 ≠ p1 := by have := r0.lt; omega
              have e2 : Blk 3 g2 [] V40_9 := (hk g2 e2.lt (by omega)).trans e2
              have r0 := r0.keep (hk p0 r0.lt (by omega))
              have qA := qA.under hA (by omega)
              have qR := qR.under hA (by omega)
              have hr0 := hr0.under hA (by omega)
              have hr1 := hr1.under hA (by omega)
              have hr2 := hr2.under hA (by omega)
              have hB := hB.trans (hA.mono (by omega))
              have hsz : w.heap.size + 2 ≤ V40_9.heap.size := Nat.le_trans hsz hz
              clear hA hk hb hz hp
              have s9 := (show V40_9.cell? ⟨w.heap.size, 0, none⟩ = some (.int .i64 P.f0) ∧ V40_9.cell? ⟨w.heap.size, 1, none⟩ = some (.slice a1 P.f1.length c1) ∧ V40_9.cell? ⟨w.heap.size, 2, none⟩ = some (.slice a2 P.f2.length c2) ∧ V40_9.cell? ⟨w.heap.size, 3, none⟩ = some (.slice a3 P.f3.length c3) from ⟨qA.at rfl, qA.at rfl, qA.at rfl, qA.at rfl⟩)
              refine hK.out _ _ s9 (fun hHeld => ?_)
              clear hK K
              try simp only [Act.put, List.setIfInBounds_toArray, List.set_cons_zero, List.set_cons_succ]
              refine wpAnyH_ready (rs := [13]) (by kernel_rfl) (by simp) ?_
              refine (AllReadyH.cons (List.getElem?_toArray.trans rfl) (fun K hK => ?q41_13) AllReadyH.nil)
              case q41_13 =>
                refine step_copy rfl _ _ 25 rfl 3 i0 _ 8 Try.underlying25 hi0 hz0 hz1 hz2 rfl (by omega) g2 e2 rfl 0 w.heap.size (a3) (P.f3.length) c3 (P.f3) rfl hr2 (by omega) ?_
                intro x2 y2 p2 V41_13 r2 hp hz hk hb
                have hA := hb (w.heap.size + 2) gb2
                have pb2 : w.heap.size + 2 ≤ p2 := by rcases hp with h | h <;> omega
                have n0_2 : p0 ≠ p2 := by have := r0.lt; omega
                have n1_2 : p1 ≠ p2 := by have := r1.lt; omega
                have r0 := r0.keep (hk p0 r0.lt (by omega))
                have r1 := r1.keep (hk p1 r1.lt (by omega))
                have qA := qA.under hA (by omega)
                have qR := qR.under hA (by omega)
                have hr0 := hr0.under hA (by omega)
                have hr1 := hr1.under hA (by omega)
                have hr2 := hr2.under hA (by omega)
                have hB := hB.trans (hA.mono (by omega))
                have hsz : w.heap.size + 2 ≤ V41_13.heap.size := Nat.le_trans hsz hz
                clear hA hk hb hz hp
                have s9 := (show V41_13.cell? ⟨w.heap.size, 0, none⟩ = some (.int .i64 P.f0) ∧ V41_13.cell? ⟨w.heap.size, 1, none⟩ = some (.slice a1 P.f1.length c1) ∧ V41_13.cell? ⟨w.heap.size, 2, none⟩ = some (.slice a2 P.f2.length c2) ∧ V41_13.cell? ⟨w.heap.size, 3, none⟩ = some (.slice a3 P.f3.length c3) from ⟨qA.at rfl, qA.at rfl, qA.at rfl, qA.at rfl⟩)
                refine hK.out _ _ s9 (fun hHeld => ?_)
                clear hK K
                try simp only [Act.put, List.setIfInBounds_toArray, List.set_cons_zero, List.set_cons_succ]
                refine wpAnyH_take (i := 14) (v := ?vb12) (List.getElem?_toArray.trans rfl) (by kernel_rfl) (by kernel_rfl) (by kernel_rfl) (fun _ _ _ h => h) (Or.inl ⟨by rfl, ?yb12⟩) (by assumption) ?rb12
                case yb12 => (intro w hSw; (try dsimp only at hSw); go_simp; try with_reducible rfl)
                try simp only [Act.put, List.setIfInBounds_toArray, List.set_cons_zero, List.set_cons_succ]
                refine wpAnyH_ready (rs := [15]) (by kernel_rfl) (by simp) ?_
                refine AllReadyH.cons (List.getElem?_toArray.trans rfl) (fun K hK => ?_) AllReadyH.nil
                have z0 := qR.at (x := 0) rfl
                have z1 := qR.at (x := 1) rfl
                have z2 := qR.at (x := 2) rfl
                have z3 := qR.at (x := 3) rfl
                have d0 := qR.free 0
                have d1 := qR.free 1
                have d2 := qR.free 2
                have d3 := qR.free 3
                have qF := (((qR.set 0 (.int .i64 P.f0)).set 1 (.slice x0 P.f1.length y0)).set 2 (.slice x1 P.f2.length y1)).set 3 (.slice x2 P.f3.length y2)
                simp only [List.set_cons_zero, List.set_cons_succ] at qF
                have pA := (((qA.other (a := ⟨w.heap.size + 1, 0, none⟩) (.int .i64 P.f0) (by dsimp only; omega)).other (a := ⟨w.heap.size + 1, 1, none⟩) (.slice x0 P.f1.length y0) (by dsimp only; omega)).other (a := ⟨w.heap.size + 1, 2, none⟩) (.slice x1 P.f2.length y1) (by dsimp only; omega)).other (a := ⟨w.heap.size + 1, 3, none⟩) (.slice x2 P.f3.length y2) (by dsimp only; omega)
                have t0 := (((r0.other (q := ⟨w.heap.size + 1, 0, none⟩) (.int .i64 P.f0) (by dsimp only; omega)).other (q := ⟨w.heap.size + 1, 1, none⟩) (.slice x0 P.f1.length y0) (by dsimp only; omega)).other (q := ⟨w.heap.size + 1, 2, none⟩) (.slice x1 P.f2.length y1) (by dsimp only; omega)).other (q := ⟨w.heap.size + 1, 3, none⟩) (.slice x2 P.f3.length y2) (by dsimp only; omega)
                have t1 := (((r1.other (q := ⟨w.heap.size + 1, 0, none⟩) (.int .i64 P.f0) (by dsimp only; omega)).other (q := ⟨w.heap.size + 1, 1, none⟩) (.slice x0 P.f1.length y0) (by dsimp only; omega)).other (q := ⟨w.heap.size + 1, 2, none⟩) (.slice x1 P.f2.length y1) (by dsimp only; omega)).other (q := ⟨w.heap.size + 1, 3, none⟩) (.slice x2 P.f3.length y2) (by dsimp only; omega)
                have t2 := (((r2.other (q := ⟨w.heap.size + 1, 0, none⟩) (.int .i64 P.f0) (by dsimp only; omega)).other (q := ⟨w.heap.size + 1, 1, none⟩) (.slice x0 P.f1.length y0) (by dsimp only; omega)).other (q := ⟨w.heap.size + 1, 2, none⟩) (.slice x1 P.f2.length y1) (by dsimp only; omega)).other (q := ⟨w.heap.size + 1, 3, none⟩) (.slice x2 P.f3.length y2) (by dsimp only; omega)
                have hF := (((hB.setCell (p := ⟨w.heap.size + 1, 0, none⟩) (by dsimp only; omega) (.int .i64 P.f0)).setCell (p := ⟨w.heap.size + 1, 1, none⟩) (by dsimp only; omega) (.slice x0 P.f1.length y0)).setCell (p := ⟨w.heap.size + 1, 2, none⟩) (by dsimp only; omega) (.slice x1 P.f2.length y1)).setCell (p := ⟨w.heap.size + 1, 3, none⟩) (by dsimp only; omega) (.slice x2 P.f3.length y2)
                go_simp
                obtain ⟨VF, hVF⟩ : ∃ VF, (((V41_13.setCell ⟨w.heap.size + 1, 0, none⟩ (.int .i64 P.f0)).setCell ⟨w.heap.size + 1, 1, none⟩ (.slice x0 P.f1.length y0)).setCell ⟨w.heap.size + 1, 2, none⟩ (.slice x1 P.f2.length y1)).setCell ⟨w.heap.size + 1, 3, none⟩ (.slice x2 P.f3.length y2) = VF := ⟨_, rfl⟩
                rw [hVF] at qF pA hF t0 t1 t2 ⊢
                have s9 : VF.cell? ⟨w.heap.size, 0, none⟩ = some (.int .i64 P.f0) ∧ VF.cell? ⟨w.heap.size, 1, none⟩ = some (.slice a1 P.f1.length c1) ∧ VF.cell? ⟨w.heap.size, 2, none⟩ = some (.slice a2 P.f2.length c2) ∧ VF.cell? ⟨w.heap.size, 3, none⟩ = some (.slice a3 P.f3.length c3) := ⟨pA.at rfl, pA.at rfl, pA.at rfl, pA.at rfl⟩
                refine hK.out _ _ s9 (fun hHeld => ?_)
                clear hK K
                try simp only [Act.put, List.setIfInBounds_toArray, List.set_cons_zero, List.set_cons_succ]
                refine wpAnyH_done (by kernel_rfl) ?_ _
                go_wp2_with fail
                go_meet
                case rel => exact ⟨_, rfl, rfl, x0, y0, p0, x1, y1, p1, x2, y2, p2, qF, t0, t1, t2, pb0, pb1, pb2, n0_1, n0_2, n1_2, hF⟩
    case q1_10 =>
      obtain ⟨V1_10, hV⟩ : ∃ W, V0.alloc (.cells #[] 3) = W := ⟨_, rfl⟩
      have hA : Below V0.heap.size V0 V1_10 := by rw [← hV]; exact (Below.refl _ _).alloc (Nat.le_refl _) _
      obtain ⟨g2, hg2⟩ : ∃ g, V0.heap.size = g := ⟨_, rfl⟩
      have e2 : Blk 3 g2 [] V1_10 := by rw [← hV, ← hg2]; exact Blk.new _ [] _
      have gb2 : w.heap.size + 2 ≤ g2 := by rw [← hg2]; exact hsz
      have hgl2 : g2 ≤ V0.heap.size := by rw [← hg2]; exact Nat.le_refl _
      go_simp
      try rw [hV]
      try rw [hg2]
      have qA := qA.below hA
      have qR := qR.below hA
      have hr0 := hr0.below hA
      have hr1 := hr1.below hA
      have hr2 := hr2.below hA
      have hB := hB.trans (hA.mono hB.size)
      have hsz : w.heap.size + 2 ≤ V1_10.heap.size := Nat.le_trans hsz hA.size
      clear hA hV hg2 hgl2
      have s9 := (show V1_10.cell? ⟨w.heap.size, 0, none⟩ = some (.int .i64 P.f0) ∧ V1_10.cell? ⟨w.heap.size, 1, none⟩ = some (.slice a1 P.f1.length c1) ∧ V1_10.cell? ⟨w.heap.size, 2, none⟩ = some (.slice a2 P.f2.length c2) ∧ V1_10.cell? ⟨w.heap.size, 3, none⟩ = some (.slice a3 P.f3.length c3) from ⟨qA.at rfl, qA.at rfl, qA.at rfl, qA.at rfl⟩)
      refine hK.out _ _ s9 (fun hHeld => ?_)
      clear hK K
      try simp only [Act.put, List.setIfInBounds_toArray, List.set_cons_zero, List.set_cons_succ]
      refine wpAnyH_ready (rs := [2, 6]) (by kernel_rfl) (by simp) ?_
      refine (AllReadyH.cons (List.getElem?_toArray.trans rfl) (fun K hK => ?q42_2) (AllReadyH.cons (List.getElem?_toArray.trans rfl) (fun K hK => ?q42_6) AllReadyH.nil))
      case q42_2 =>
        obtain ⟨V42_2, hV⟩ : ∃ W, V1_10.alloc (.cells #[] 3) = W := ⟨_, rfl⟩
        have hA : Below V1_10.heap.size V1_10 V42_2 := by rw [← hV]; exact (Below.refl _ _).alloc (Nat.le_refl _) _
        obtain ⟨g0, hg0⟩ : ∃ g, V1_10.heap.size = g := ⟨_, rfl⟩
        have e0 : Blk 3 g0 [] V42_2 := by rw [← hV, ← hg0]; exact Blk.new _ [] _
        have gb0 : w.heap.size + 2 ≤ g0 := by rw [← hg0]; exact hsz
        have m2_0 : g2 ≠ g0 := by have := e2.lt; omega
        have hgl0 : g0 ≤ V1_10.heap.size := by rw [← hg0]; exact Nat.le_refl _
        go_simp
        try rw [hV]
        try rw [hg0]
        have e2 := e2.below hA
        have qA := qA.below hA
        have qR := qR.below hA
        have hr0 := hr0.below hA
        have hr1 := hr1.below hA
        have hr2 := hr2.below hA
        have hB := hB.trans (hA.mono hB.size)
        have hsz : w.heap.size + 2 ≤ V42_2.heap.size := Nat.le_trans hsz hA.size
        clear hA hV hg0 hgl0
        have s9 := (show V42_2.cell? ⟨w.heap.size, 0, none⟩ = some (.int .i64 P.f0) ∧ V42_2.cell? ⟨w.heap.size, 1, none⟩ = some (.slice a1 P.f1.length c1) ∧ V42_2.cell? ⟨w.heap.size, 2, none⟩ = some (.slice a2 P.f2.length c2) ∧ V42_2.cell? ⟨w.heap.size, 3, none⟩ = some (.slice a3 P.f3.length c3) from ⟨qA.at rfl, qA.at rfl, qA.at rfl, qA.at rfl⟩)
        refine hK.out _ _ s9 (fun hHeld => ?_)
        clear hK K
        try simp only [Act.put, List.setIfInBounds_toArray, List.set_cons_zero, List.set_cons_succ]
        refine wpAnyH_ready (rs := [5, 6]) (by kernel_rfl) (by simp) ?_
        refine (AllReadyH.cons (List.getElem?_toArray.trans rfl) (fun K hK => ?q43_5) (AllReadyH.cons (List.getElem?_toArray.trans rfl) (fun K hK => ?q43_6) AllReadyH.nil))
        case q43_5 =>
          refine step_copy rfl _ _ 25 rfl 3 i0 _ 8 Try.underlying25 hi0 hz0 hz1 hz2 rfl (by omega) g0 e0 rfl 0 w.heap.size (a1) (P.f1.length) c1 (P.f1) rfl hr0 (by omega) ?_
          intro x0 y0 p0 V43_5 r0 hp hz hk hb
          have hA := hb (w.heap.size + 2) gb0
          have pb0 : w.heap.size + 2 ≤ p0 := by rcases hp with h | h <;> omega
          have m0_2 : p0 ≠ g2 := by have := e2.lt; omega
          have e2 : Blk 3 g2 [] V43_5 := (hk g2 e2.lt (by omega)).trans e2
          have qA := qA.under hA (by omega)
          have qR := qR.under hA (by omega)
          have hr0 := hr0.under hA (by omega)
          have hr1 := hr1.under hA (by omega)
          have hr2 := hr2.under hA (by omega)
          have hB := hB.trans (hA.mono (by omega))
          have hsz : w.heap.size + 2 ≤ V43_5.heap.size := Nat.le_trans hsz hz
          clear hA hk hb hz hp
          have s9 := (show V43_5.cell? ⟨w.heap.size, 0, none⟩ = some (.int .i64 P.f0) ∧ V43_5.cell? ⟨w.heap.size, 1, none⟩ = some (.slice a1 P.f1.length c1) ∧ V43_5.cell? ⟨w.heap.size, 2, none⟩ = some (.slice a2 P.f2.length c2) ∧ V43_5.cell? ⟨w.heap.size, 3, none⟩ = some (.slice a3 P.f3.length c3) from ⟨qA.at rfl, qA.at rfl, qA.at rfl, qA.at rfl⟩)
          refine hK.out _ _ s9 (fun hHeld => ?_)
          clear hK K
          try simp only [Act.put, List.setIfInBounds_toArray, List.set_cons_zero, List.set_cons_succ]
          refine wpAnyH_ready (rs := [6]) (by kernel_rfl) (by simp) ?_
          refine (AllReadyH.cons (List.getElem?_toArray.trans rfl) (fun K hK => ?q44_6) AllReadyH.nil)
          case q44_6 =>
            obtain ⟨V44_6, hV⟩ : ∃ W, V43_5.alloc (.cells #[] 3) = W := ⟨_, rfl⟩
            have hA : Below V43_5.heap.size V43_5 V44_6 := by rw [← hV]; exact (Below.refl _ _).alloc (Nat.le_refl _) _
            obtain ⟨g1, hg1⟩ : ∃ g, V43_5.heap.size = g := ⟨_, rfl⟩
            have e1 : Blk 3 g1 [] V44_6 := by rw [← hV, ← hg1]; exact Blk.new _ [] _
            have gb1 : w.heap.size + 2 ≤ g1 := by rw [← hg1]; exact hsz
            have m2_1 : g2 ≠ g1 := by have := e2.lt; omega
            have m0_1 : p0 ≠ g1 := by have := r0.lt; omega
            have hgl1 : g1 ≤ V43_5.heap.size := by rw [← hg1]; exact Nat.le_refl _
            go_simp
            try rw [hV]
            try rw [hg1]
            have e2 := e2.below hA
            have r0 := r0.below hA
            have qA := qA.below hA
            have qR := qR.below hA
            have hr0 := hr0.below hA
            have hr1 := hr1.below hA
            have hr2 := hr2.below hA
            have hB := hB.trans (hA.mono hB.size)
            have hsz : w.heap.size + 2 ≤ V44_6.heap.size := Nat.le_trans hsz hA.size
            clear hA hV hg1 hgl1
            have s9 := (show V44_6.cell? ⟨w.heap.size, 0, none⟩ = some (.int .i64 P.f0) ∧ V44_6.cell? ⟨w.heap.size, 1, none⟩ = some (.slice a1 P.f1.length c1) ∧ V44_6.cell? ⟨w.heap.size, 2, none⟩ = some (.slice a2 P.f2.length c2) ∧ V44_6.cell? ⟨w.heap.size, 3, none⟩ = some (.slice a3 P.f3.length c3) from ⟨qA.at rfl, qA.at rfl, qA.at rfl, qA.at rfl⟩)
            refine hK.out _ _ s9 (fun hHeld => ?_)
            clear hK K
            try simp only [Act.put, List.setIfInBounds_toArray, List.set_cons_zero, List.set_cons_succ]
            refine wpAnyH_ready (rs := [9]) (by kernel_rfl) (by simp) ?_
            refine (AllReadyH.cons (List.getElem?_toArray.trans rfl) (fun K hK => ?q45_9) AllReadyH.nil)
            case q45_9 =>
              refine step_copy rfl _ _ 25 rfl 3 i0 _ 8 Try.underlying25 hi0 hz0 hz1 hz2 rfl (by omega) g1 e1 rfl 0 w.heap.size (a2) (P.f2.length) c2 (P.f2) rfl hr1 (by omega) ?_
              intro x1 y1 p1 V45_9 r1 hp hz hk hb
              have hA := hb (w.heap.size + 2) gb1
              have pb1 : w.heap.size + 2 ≤ p1 := by rcases hp with h | h <;> omega
              have m1_2 : p1 ≠ g2 := by have := e2.lt; omega
              have n0_1 : p0 ≠ p1 := by have := r0.lt; omega
              have e2 : Blk 3 g2 [] V45_9 := (hk g2 e2.lt (by omega)).trans e2
              have r0 := r0.keep (hk p0 r0.lt (by omega))
              have qA := qA.under hA (by omega)
              have qR := qR.under hA (by omega)
              have hr0 := hr0.under hA (by omega)
              have hr1 := hr1.under hA (by omega)
              have hr2 := hr2.under hA (by omega)
              have hB := hB.trans (hA.mono (by omega))
              have hsz : w.heap.size + 2 ≤ V45_9.heap.size := Nat.le_trans hsz hz
              clear hA hk hb hz hp
              have s9 := (show V45_9.cell? ⟨w.heap.size, 0, none⟩ = some (.int .i64 P.f0) ∧ V45_9.cell? ⟨w.heap.size, 1, none⟩ = some (.slice a1 P.f1.length c1) ∧ V45_9.cell? ⟨w.heap.size, 2, none⟩ = some (.slice a2 P.f2.length c2) ∧ V45_9.cell? ⟨w.heap.size, 3, none⟩ = some (.slice a3 P.f3.length c3) from ⟨qA.at rfl, qA.at rfl, qA.at rfl, qA.at rfl⟩)
              refine hK.out _ _ s9 (fun hHeld => ?_)
              clear hK K
              try simp only [Act.put, List.setIfInBounds_toArray, List.set_cons_zero, List.set_cons_succ]
              refine wpAnyH_ready (rs := [13]) (by kernel_rfl) (by simp) ?_
              refine (AllReadyH.cons (List.getElem?_toArray.trans rfl) (fun K hK => ?q46_13) AllReadyH.nil)
              case q46_13 =>
                refine step_copy rfl _ _ 25 rfl 3 i0 _ 8 Try.underlying25 hi0 hz0 hz1 hz2 rfl (by omega) g2 e2 rfl 0 w.heap.size (a3) (P.f3.length) c3 (P.f3) rfl hr2 (by omega) ?_
                intro x2 y2 p2 V46_13 r2 hp hz hk hb
                have hA := hb (w.heap.size + 2) gb2
                have pb2 : w.heap.size + 2 ≤ p2 := by rcases hp with h | h <;> omega
                have n0_2 : p0 ≠ p2 := by have := r0.lt; omega
                have n1_2 : p1 ≠ p2 := by have := r1.lt; omega
                have r0 := r0.keep (hk p0 r0.lt (by omega))
                have r1 := r1.keep (hk p1 r1.lt (by omega))
                have qA := qA.under hA (by omega)
                have qR := qR.under hA (by omega)
                have hr0 := hr0.under hA (by omega)
                have hr1 := hr1.under hA (by omega)
                have hr2 := hr2.under hA (by omega)
                have hB := hB.trans (hA.mono (by omega))
                have hsz : w.heap.size + 2 ≤ V46_13.heap.size := Nat.le_trans hsz hz
                clear hA hk hb hz hp
                have s9 := (show V46_13.cell? ⟨w.heap.size, 0, none⟩ = some (.int .i64 P.f0) ∧ V46_13.cell? ⟨w.heap.size, 1, none⟩ = some (.slice a1 P.f1.length c1) ∧ V46_13.cell? ⟨w.heap.size, 2, none⟩ = some (.slice a2 P.f2.length c2) ∧ V46_13.cell? ⟨w.heap.size, 3, none⟩ = some (.slice a3 P.f3.length c3) from ⟨qA.at rfl, qA.at rfl, qA.at rfl, qA.at rfl⟩)
                refine hK.out _ _ s9 (fun hHeld => ?_)
                clear hK K
                try simp only [Act.put, List.setIfInBounds_toArray, List.set_cons_zero, List.set_cons_succ]
                refine wpAnyH_take (i := 14) (v := ?vb13) (List.getElem?_toArray.trans rfl) (by kernel_rfl) (by kernel_rfl) (by kernel_rfl) (fun _ _ _ h => h) (Or.inl ⟨by rfl, ?yb13⟩) (by assumption) ?rb13
                case yb13 => (intro w hSw; (try dsimp only at hSw); go_simp; try with_reducible rfl)
                try simp only [Act.put, List.setIfInBounds_toArray, List.set_cons_zero, List.set_cons_succ]
                refine wpAnyH_ready (rs := [15]) (by kernel_rfl) (by simp) ?_
                refine AllReadyH.cons (List.getElem?_toArray.trans rfl) (fun K hK => ?_) AllReadyH.nil
                have z0 := qR.at (x := 0) rfl
                have z1 := qR.at (x := 1) rfl
                have z2 := qR.at (x := 2) rfl
                have z3 := qR.at (x := 3) rfl
                have d0 := qR.free 0
                have d1 := qR.free 1
                have d2 := qR.free 2
                have d3 := qR.free 3
                have qF := (((qR.set 0 (.int .i64 P.f0)).set 1 (.slice x0 P.f1.length y0)).set 2 (.slice x1 P.f2.length y1)).set 3 (.slice x2 P.f3.length y2)
                simp only [List.set_cons_zero, List.set_cons_succ] at qF
                have pA := (((qA.other (a := ⟨w.heap.size + 1, 0, none⟩) (.int .i64 P.f0) (by dsimp only; omega)).other (a := ⟨w.heap.size + 1, 1, none⟩) (.slice x0 P.f1.length y0) (by dsimp only; omega)).other (a := ⟨w.heap.size + 1, 2, none⟩) (.slice x1 P.f2.length y1) (by dsimp only; omega)).other (a := ⟨w.heap.size + 1, 3, none⟩) (.slice x2 P.f3.length y2) (by dsimp only; omega)
                have t0 := (((r0.other (q := ⟨w.heap.size + 1, 0, none⟩) (.int .i64 P.f0) (by dsimp only; omega)).other (q := ⟨w.heap.size + 1, 1, none⟩) (.slice x0 P.f1.length y0) (by dsimp only; omega)).other (q := ⟨w.heap.size + 1, 2, none⟩) (.slice x1 P.f2.length y1) (by dsimp only; omega)).other (q := ⟨w.heap.size + 1, 3, none⟩) (.slice x2 P.f3.length y2) (by dsimp only; omega)
                have t1 := (((r1.other (q := ⟨w.heap.size + 1, 0, none⟩) (.int .i64 P.f0) (by dsimp only; omega)).other (q := ⟨w.heap.size + 1, 1, none⟩) (.slice x0 P.f1.length y0) (by dsimp only; omega)).other (q := ⟨w.heap.size + 1, 2, none⟩) (.slice x1 P.f2.length y1) (by dsimp only; omega)).other (q := ⟨w.heap.size + 1, 3, none⟩) (.slice x2 P.f3.length y2) (by dsimp only; omega)
                have t2 := (((r2.other (q := ⟨w.heap.size + 1, 0, none⟩) (.int .i64 P.f0) (by dsimp only; omega)).other (q := ⟨w.heap.size + 1, 1, none⟩) (.slice x0 P.f1.length y0) (by dsimp only; omega)).other (q := ⟨w.heap.size + 1, 2, none⟩) (.slice x1 P.f2.length y1) (by dsimp only; omega)).other (q := ⟨w.heap.size + 1, 3, none⟩) (.slice x2 P.f3.length y2) (by dsimp only; omega)
                have hF := (((hB.setCell (p := ⟨w.heap.size + 1, 0, none⟩) (by dsimp only; omega) (.int .i64 P.f0)).setCell (p := ⟨w.heap.size + 1, 1, none⟩) (by dsimp only; omega) (.slice x0 P.f1.length y0)).setCell (p := ⟨w.heap.size + 1, 2, none⟩) (by dsimp only; omega) (.slice x1 P.f2.length y1)).setCell (p := ⟨w.heap.size + 1, 3, none⟩) (by dsimp only; omega) (.slice x2 P.f3.length y2)
                go_simp
                obtain ⟨VF, hVF⟩ : ∃ VF, (((V46_13.setCell ⟨w.heap.size + 1, 0, none⟩ (.int .i64 P.f0)).setCell ⟨w.heap.size + 1, 1, none⟩ (.slice x0 P.f1.length y0)).setCell ⟨w.heap.size + 1, 2, none⟩ (.slice x1 P.f2.length y1)).setCell ⟨w.heap.size + 1, 3, none⟩ (.slice x2 P.f3.length y2) = VF := ⟨_, rfl⟩
                rw [hVF] at qF pA hF t0 t1 t2 ⊢
                have s9 : VF.cell? ⟨w.heap.size, 0, none⟩ = some (.int .i64 P.f0) ∧ VF.cell? ⟨w.heap.size, 1, none⟩ = some (.slice a1 P.f1.length c1) ∧ VF.cell? ⟨w.heap.size, 2, none⟩ = some (.slice a2 P.f2.length c2) ∧ VF.cell? ⟨w.heap.size, 3, none⟩ = some (.slice a3 P.f3.length c3) := ⟨pA.at rfl, pA.at rfl, pA.at rfl, pA.at rfl⟩
                refine hK.out _ _ s9 (fun hHeld => ?_)
                clear hK K
                try simp only [Act.put, List.setIfInBounds_toArray, List.set_cons_zero, List.set_cons_succ]
                refine wpAnyH_done (by kernel_rfl) ?_ _
                go_wp2_with fail
                go_meet
                case rel => exact ⟨_, rfl, rfl, x0, y0, p0, x1, y1, p1, x2, y2, p2, qF, t0, t1, t2, pb0, pb1, pb2, n0_1, n0_2, n1_2, hF⟩
        case q43_6 =>
          obtain ⟨V43_6, hV⟩ : ∃ W, V42_2.alloc (.cells #[] 3) = W := ⟨_, rfl⟩
          have hA : Below V42_2.heap.size V42_2 V43_6 := by rw [← hV]; exact (Below.refl _ _).alloc (Nat.le_refl _) _
          obtain ⟨g1, hg1⟩ : ∃ g, V42_2.heap.size = g := ⟨_, rfl⟩
          have e1 : Blk 3 g1 [] V43_6 := by rw [← hV, ← hg1]; exact Blk.new _ [] _
          have gb1 : w.heap.size + 2 ≤ g1 := by rw [← hg1]; exact hsz
          have m0_1 : g0 ≠ g1 := by have := e0.lt; omega
          have m2_1 : g2 ≠ g1 := by have := e2.lt; omega
          have hgl1 : g1 ≤ V42_2.heap.size := by rw [← hg1]; exact Nat.le_refl _
          go_simp
          try rw [hV]
          try rw [hg1]
          have e0 := e0.below hA
          have e2 := e2.below hA
          have qA := qA.below hA
          have qR := qR.below hA
          have hr0 := hr0.below hA
          have hr1 := hr1.below hA
          have hr2 := hr2.below hA
          have hB := hB.trans (hA.mono hB.size)
          have hsz : w.heap.size + 2 ≤ V43_6.heap.size := Nat.le_trans hsz hA.size
          clear hA hV hg1 hgl1
          have s9 := (show V43_6.cell? ⟨w.heap.size, 0, none⟩ = some (.int .i64 P.f0) ∧ V43_6.cell? ⟨w.heap.size, 1, none⟩ = some (.slice a1 P.f1.length c1) ∧ V43_6.cell? ⟨w.heap.size, 2, none⟩ = some (.slice a2 P.f2.length c2) ∧ V43_6.cell? ⟨w.heap.size, 3, none⟩ = some (.slice a3 P.f3.length c3) from ⟨qA.at rfl, qA.at rfl, qA.at rfl, qA.at rfl⟩)
          refine hK.out _ _ s9 (fun hHeld => ?_)
          clear hK K
          try simp only [Act.put, List.setIfInBounds_toArray, List.set_cons_zero, List.set_cons_succ]
          refine wpAnyH_ready (rs := [5]) (by kernel_rfl) (by simp) ?_
          refine (AllReadyH.cons (List.getElem?_toArray.trans rfl) (fun K hK => ?q47_5) AllReadyH.nil)
          case q47_5 =>
            refine step_copy rfl _ _ 25 rfl 3 i0 _ 8 Try.underlying25 hi0 hz0 hz1 hz2 rfl (by omega) g0 e0 rfl 0 w.heap.size (a1) (P.f1.length) c1 (P.f1) rfl hr0 (by omega) ?_
            intro x0 y0 p0 V47_5 r0 hp hz hk hb
            have hA := hb (w.heap.size + 2) gb0
            have pb0 : w.heap.size + 2 ≤ p0 := by rcases hp with h | h <;> omega
            have m0_1 : p0 ≠ g1 := by have := e1.lt; omega
            have m0_2 : p0 ≠ g2 := by have := e2.lt; omega
            have e1 : Blk 3 g1 [] V47_5 := (hk g1 e1.lt (by omega)).trans e1
            have e2 : Blk 3 g2 [] V47_5 := (hk g2 e2.lt (by omega)).trans e2
            have qA := qA.under hA (by omega)
            have qR := qR.under hA (by omega)
            have hr0 := hr0.under hA (by omega)
            have hr1 := hr1.under hA (by omega)
            have hr2 := hr2.under hA (by omega)
            have hB := hB.trans (hA.mono (by omega))
            have hsz : w.heap.size + 2 ≤ V47_5.heap.size := Nat.le_trans hsz hz
            clear hA hk hb hz hp
            have s9 := (show V47_5.cell? ⟨w.heap.size, 0, none⟩ = some (.int .i64 P.f0) ∧ V47_5.cell? ⟨w.heap.size, 1, none⟩ = some (.slice a1 P.f1.length c1) ∧ V47_5.cell? ⟨w.heap.size, 2, none⟩ = some (.slice a2 P.f2.length c2) ∧ V47_5.cell? ⟨w.heap.size, 3, none⟩ = some (.slice a3 P.f3.length c3) from ⟨qA.at rfl, qA.at rfl, qA.at rfl, qA.at rfl⟩)
            refine hK.out _ _ s9 (fun hHeld => ?_)
            clear hK K
            try simp only [Act.put, List.setIfInBounds_toArray, List.set_cons_zero, List.set_cons_succ]
            refine wpAnyH_ready (rs := [9]) (by kernel_rfl) (by simp) ?_
            refine (AllReadyH.cons (List.getElem?_toArray.trans rfl) (fun K hK => ?q48_9) AllReadyH.nil)
            case q48_9 =>
              refine step_copy rfl _ _ 25 rfl 3 i0 _ 8 Try.underlying25 hi0 hz0 hz1 hz2 rfl (by omega) g1 e1 rfl 0 w.heap.size (a2) (P.f2.length) c2 (P.f2) rfl hr1 (by omega) ?_
              intro x1 y1 p1 V48_9 r1 hp hz hk hb
              have hA := hb (w.heap.size + 2) gb1
              have pb1 : w.heap.size + 2 ≤ p1 := by rcases hp with h | h <;> omega
              have m1_2 : p1 ≠ g2 := by have := e2.lt; omega
              have n0_1 : p0 ≠ p1 := by have := r0.lt; omega
              have e2 : Blk 3 g2 [] V48_9 := (hk g2 e2.lt (by omega)).trans e2
              have r0 := r0.keep (hk p0 r0.lt (by omega))
              have qA := qA.under hA (by omega)
              have qR := qR.under hA (by omega)
              have hr0 := hr0.under hA (by omega)
              have hr1 := hr1.under hA (by omega)
              have hr2 := hr2.under hA (by omega)
              have hB := hB.trans (hA.mono (by omega))
              have hsz : w.heap.size + 2 ≤ V48_9.heap.size := Nat.le_trans hsz hz
              clear hA hk hb hz hp
              have s9 := (show V48_9.cell? ⟨w.heap.size, 0, none⟩ = some (.int .i64 P.f0) ∧ V48_9.cell? ⟨w.heap.size, 1, none⟩ = some (.slice a1 P.f1.length c1) ∧ V48_9.cell? ⟨w.heap.size, 2, none⟩ = some (.slice a2 P.f2.length c2) ∧ V48_9.cell? ⟨w.heap.size, 3, none⟩ = some (.slice a3 P.f3.length c3) from ⟨qA.at rfl, qA.at rfl, qA.at rfl, qA.at rfl⟩)
              refine hK.out _ _ s9 (fun hHeld => ?_)
              clear hK K
              try simp only [Act.put, List.setIfInBounds_toArray, List.set_cons_zero, List.set_cons_succ]
              refine wpAnyH_ready (rs := [13]) (by kernel_rfl) (by simp) ?_
              refine (AllReadyH.cons (List.getElem?_toArray.trans rfl) (fun K hK => ?q49_13) AllReadyH.nil)
              case q49_13 =>
                refine step_copy rfl _ _ 25 rfl 3 i0 _ 8 Try.underlying25 hi0 hz0 hz1 hz2 rfl (by omega) g2 e2 rfl 0 w.heap.size (a3) (P.f3.length) c3 (P.f3) rfl hr2 (by omega) ?_
                intro x2 y2 p2 V49_13 r2 hp hz hk hb
                have hA := hb (w.heap.size + 2) gb2
                have pb2 : w.heap.size + 2 ≤ p2 := by rcases hp with h | h <;> omega
                have n0_2 : p0 ≠ p2 := by have := r0.lt; omega
                have n1_2 : p1 ≠ p2 := by have := r1.lt; omega
                have r0 := r0.keep (hk p0 r0.lt (by omega))
                have r1 := r1.keep (hk p1 r1.lt (by omega))
                have qA := qA.under hA (by omega)
                have qR := qR.under hA (by omega)
                have hr0 := hr0.under hA (by omega)
                have hr1 := hr1.under hA (by omega)
                have hr2 := hr2.under hA (by omega)
                have hB := hB.trans (hA.mono (by omega))
                have hsz : w.heap.size + 2 ≤ V49_13.heap.size := Nat.le_trans hsz hz
                clear hA hk hb hz hp
                have s9 := (show V49_13.cell? ⟨w.heap.size, 0, none⟩ = some (.int .i64 P.f0) ∧ V49_13.cell? ⟨w.heap.size, 1, none⟩ = some (.slice a1 P.f1.length c1) ∧ V49_13.cell? ⟨w.heap.size, 2, none⟩ = some (.slice a2 P.f2.length c2) ∧ V49_13.cell? ⟨w.heap.size, 3, none⟩ = some (.slice a3 P.f3.length c3) from ⟨qA.at rfl, qA.at rfl, qA.at rfl, qA.at rfl⟩)
                refine hK.out _ _ s9 (fun hHeld => ?_)
                clear hK K
                try simp only [Act.put, List.setIfInBounds_toArray, List.set_cons_zero, List.set_cons_succ]
                refine wpAnyH_take (i := 14) (v := ?vb14) (List.getElem?_toArray.trans rfl) (by kernel_rfl) (by kernel_rfl) (by kernel_rfl) (fun _ _ _ h => h) (Or.inl ⟨by rfl, ?yb14⟩) (by assumption) ?rb14
                case yb14 => (intro w hSw; (try dsimp only at hSw); go_simp; try with_reducible rfl)
                try simp only [Act.put, List.setIfInBounds_toArray, List.set_cons_zero, List.set_cons_succ]
                refine wpAnyH_ready (rs := [15]) (by kernel_rfl) (by simp) ?_
                refine AllReadyH.cons (List.getElem?_toArray.trans rfl) (fun K hK => ?_) AllReadyH.nil
                have z0 := qR.at (x := 0) rfl
                have z1 := qR.at (x := 1) rfl
                have z2 := qR.at (x := 2) rfl
                have z3 := qR.at (x := 3) rfl
                have d0 := qR.free 0
                have d1 := qR.free 1
                have d2 := qR.free 2
                have d3 := qR.free 3
                have qF := (((qR.set 0 (.int .i64 P.f0)).set 1 (.slice x0 P.f1.length y0)).set 2 (.slice x1 P.f2.length y1)).set 3 (.slice x2 P.f3.length y2)
                simp only [List.set_cons_zero, List.set_cons_succ] at qF
                have pA := (((qA.other (a := ⟨w.heap.size + 1, 0, none⟩) (.int .i64 P.f0) (by dsimp only; omega)).other (a := ⟨w.heap.size + 1, 1, none⟩) (.slice x0 P.f1.length y0) (by dsimp only; omega)).other (a := ⟨w.heap.size + 1, 2, none⟩) (.slice x1 P.f2.length y1) (by dsimp only; omega)).other (a := ⟨w.heap.size + 1, 3, none⟩) (.slice x2 P.f3.length y2) (by dsimp only; omega)
                have t0 := (((r0.other (q := ⟨w.heap.size + 1, 0, none⟩) (.int .i64 P.f0) (by dsimp only; omega)).other (q := ⟨w.heap.size + 1, 1, none⟩) (.slice x0 P.f1.length y0) (by dsimp only; omega)).other (q := ⟨w.heap.size + 1, 2, none⟩) (.slice x1 P.f2.length y1) (by dsimp only; omega)).other (q := ⟨w.heap.size + 1, 3, none⟩) (.slice x2 P.f3.length y2) (by dsimp only; omega)
                have t1 := (((r1.other (q := ⟨w.heap.size + 1, 0, none⟩) (.int .i64 P.f0) (by dsimp only; omega)).other (q := ⟨w.heap.size + 1, 1, none⟩) (.slice x0 P.f1.length y0) (by dsimp only; omega)).other (q := ⟨w.heap.size + 1, 2, none⟩) (.slice x1 P.f2.length y1) (by dsimp only; omega)).other (q := ⟨w.heap.size + 1, 3, none⟩) (.slice x2 P.f3.length y2) (by dsimp only; omega)
                have t2 := (((r2.other (q := ⟨w.heap.size + 1, 0, none⟩) (.int .i64 P.f0) (by dsimp only; omega)).other (q := ⟨w.heap.size + 1, 1, none⟩) (.slice x0 P.f1.length y0) (by dsimp only; omega)).other (q := ⟨w.heap.size + 1, 2, none⟩) (.slice x1 P.f2.length y1) (by dsimp only; omega)).other (q := ⟨w.heap.size + 1, 3, none⟩) (.slice x2 P.f3.length y2) (by dsimp only; omega)
                have hF := (((hB.setCell (p := ⟨w.heap.size + 1, 0, none⟩) (by dsimp only; omega) (.int .i64 P.f0)).setCell (p := ⟨w.heap.size + 1, 1, none⟩) (by dsimp only; omega) (.slice x0 P.f1.length y0)).setCell (p := ⟨w.heap.size + 1, 2, none⟩) (by dsimp only; omega) (.slice x1 P.f2.length y1)).setCell (p := ⟨w.heap.size + 1, 3, none⟩) (by dsimp only; omega) (.slice x2 P.f3.length y2)
                go_simp
                obtain ⟨VF, hVF⟩ : ∃ VF, (((V49_13.setCell ⟨w.heap.size + 1, 0, none⟩ (.int .i64 P.f0)).setCell ⟨w.heap.size + 1, 1, none⟩ (.slice x0 P.f1.length y0)).setCell ⟨w.heap.size + 1, 2, none⟩ (.slice x1 P.f2.length y1)).setCell ⟨w.heap.size + 1, 3, none⟩ (.slice x2 P.f3.length y2) = VF := ⟨_, rfl⟩
                rw [hVF] at qF pA hF t0 t1 t2 ⊢
                have s9 : VF.cell? ⟨w.heap.size, 0, none⟩ = some (.int .i64 P.f0) ∧ VF.cell? ⟨w.heap.size, 1, none⟩ = some (.slice a1 P.f1.length c1) ∧ VF.cell? ⟨w.heap.size, 2, none⟩ = some (.slice a2 P.f2.length c2) ∧ VF.cell? ⟨w.heap.size, 3, none⟩ = some (.slice a3 P.f3.length c3) := ⟨pA.at rfl, pA.at rfl, pA.at rfl, pA.at rfl⟩
                refine hK.out _ _ s9 (fun hHeld => ?_)
                clear hK K
                try simp only [Act.put, List.setIfInBounds_toArray, List.set_cons_zero, List.set_cons_succ]
                refine wpAnyH_done (by kernel_rfl) ?_ _
                go_wp2_with fail
                go_meet
                case rel => exact ⟨_, rfl, rfl, x0, y0, p0, x1, y1, p1, x2, y2, p2, qF, t0, t1, t2, pb0, pb1, pb2, n0_1, n0_2, n1_2, hF⟩
      case q42_6 =>
        obtain ⟨V42_6, hV⟩ : ∃ W, V1_10.alloc (.cells #[] 3) = W := ⟨_, rfl⟩
        have hA : Below V1_10.heap.size V1_10 V42_6 := by rw [← hV]; exact (Below.refl _ _).alloc (Nat.le_refl _) _
        obtain ⟨g1, hg1⟩ : ∃ g, V1_10.heap.size = g := ⟨_, rfl⟩
        have e1 : Blk 3 g1 [] V42_6 := by rw [← hV, ← hg1]; exact Blk.new _ [] _
        have gb1 : w.heap.size + 2 ≤ g1 := by rw [← hg1]; exact hsz
        have m2_1 : g2 ≠ g1 := by have := e2.lt; omega
        have hgl1 : g1 ≤ V1_10.heap.size := by rw [← hg1]; exact Nat.le_refl _
        go_simp
        try rw [hV]
        try rw [hg1]
        have e2 := e2.below hA
        have qA := qA.below hA
        have qR := qR.below hA
        have hr0 := hr0.below hA
        have hr1 := hr1.below hA
        have hr2 := hr2.below hA
        have hB := hB.trans (hA.mono hB.size)
        have hsz : w.heap.size + 2 ≤ V42_6.heap.size := Nat.le_trans hsz hA.size
        clear hA hV hg1 hgl1
        have s9 := (show V42_6.cell? ⟨w.heap.size, 0, none⟩ = some (.int .i64 P.f0) ∧ V42_6.cell? ⟨w.heap.size, 1, none⟩ = some (.slice a1 P.f1.length c1) ∧ V42_6.cell? ⟨w.heap.size, 2, none⟩ = some (.slice a2 P.f2.length c2) ∧ V42_6.cell? ⟨w.heap.size, 3, none⟩ = some (.slice a3 P.f3.length c3) from ⟨qA.at rfl, qA.at rfl, qA.at rfl, qA.at rfl⟩)
        refine hK.out _ _ s9 (fun hHeld => ?_)
        clear hK K
        try simp only [Act.put, List.setIfInBounds_toArray, List.set_cons_zero, List.set_cons_succ]
        refine wpAnyH_ready (rs := [2]) (by kernel_rfl) (by simp) ?_
        refine (AllReadyH.cons (List.getElem?_toArray.trans rfl) (fun K hK => ?q50_2) AllReadyH.nil)
        case q50_2 =>
          obtain ⟨V50_2, hV⟩ : ∃ W, V42_6.alloc (.cells #[] 3) = W := ⟨_, rfl⟩
          have hA : Below V42_6.heap.size V42_6 V50_2 := by rw [← hV]; exact (Below.refl _ _).alloc (Nat.le_refl _) _
          obtain ⟨g0, hg0⟩ : ∃ g, V42_6.heap.size = g := ⟨_, rfl⟩
          have e0 : Blk 3 g0 [] V50_2 := by rw [← hV, ← hg0]; exact Blk.new _ [] _
          have gb0 : w.heap.size + 2 ≤ g0 := by rw [← hg0]; exact hsz
          have m1_0 : g1 ≠ g0 := by have := e1.lt; omega
          have m2_0 : g2 ≠ g0 := by have := e2.lt; omega
          have hgl0 : g0 ≤ V42_6.heap.size := by rw [← hg0]; exact Nat.le_refl _
          go_simp
          try rw [hV]
          try rw [hg0]
          have e1 := e1.below hA
          have e2 := e2.below hA
          have qA := qA.below hA
          have qR := qR.below hA
          have hr0 := hr0.below hA
          have hr1 := hr1.below hA
          have hr2 := hr2.below hA
          have hB := hB.trans (hA.mono hB.size)
          have hsz : w.heap.size + 2 ≤ V50_2.heap.size := Nat.le_trans hsz hA.size
          clear hA hV hg0 hgl0
          have s9 := (show V50_2.cell? ⟨w.heap.size, 0, none⟩ = some (.int .i64 P.f0) ∧ V50_2.cell? ⟨w.heap.size, 1, none⟩ = some (.slice a1 P.f1.length c1) ∧ V50_2.cell? ⟨w.heap.size, 2, none⟩ = some (.slice a2 P.f2.length c2) ∧ V50_2.cell? ⟨w.heap.size, 3, none⟩ = some (.slice a3 P.f3.length c3) from ⟨qA.at rfl, qA.at rfl, qA.at rfl, qA.at rfl⟩)
          refine hK.out _ _ s9 (fun hHeld => ?_)
          clear hK K
          try simp only [Act.put, List.setIfInBounds_toArray, List.set_cons_zero, List.set_cons_succ]
          refine wpAnyH_ready (rs := [5]) (by kernel_rfl) (by simp) ?_
          refine (AllReadyH.cons (List.getElem?_toArray.trans rfl) (fun K hK => ?q51_5) AllReadyH.nil)
          case q51_5 =>
            refine step_copy rfl _ _ 25 rfl 3 i0 _ 8 Try.underlying25 hi0 hz0 hz1 hz2 rfl (by omega) g0 e0 rfl 0 w.heap.size (a1) (P.f1.length) c1 (P.f1) rfl hr0 (by omega) ?_
            intro x0 y0 p0 V51_5 r0 hp hz hk hb
            have hA := hb (w.heap.size + 2) gb0
            have pb0 : w.heap.size + 2 ≤ p0 := by rcases hp with h | h <;> omega
            have m0_1 : p0 ≠ g1 := by have := e1.lt; omega
            have m0_2 : p0 ≠ g2 := by have := e2.lt; omega
            have e1 : Blk 3 g1 [] V51_5 := (hk g1 e1.lt (by omega)).trans e1
            have e2 : Blk 3 g2 [] V51_5 := (hk g2 e2.lt (by omega)).trans e2
            have qA := qA.under hA (by omega)
            have qR := qR.under hA (by omega)
            have hr0 := hr0.under hA (by omega)
            have hr1 := hr1.under hA (by omega)
            have hr2 := hr2.under hA (by omega)
            have hB := hB.trans (hA.mono (by omega))
            have hsz : w.heap.size + 2 ≤ V51_5.heap.size := Nat.le_trans hsz hz
            clear hA hk hb hz hp
            have s9 := (show V51_5.cell? ⟨w.heap.size, 0, none⟩ = some (.int .i64 P.f0) ∧ V51_5.cell? ⟨w.heap.size, 1, none⟩ = some (.slice a1 P.f1.length c1) ∧ V51_5.cell? ⟨w.heap.size, 2, none⟩ = some (.slice a2 P.f2.length c2) ∧ V51_5.cell? ⟨w.heap.size, 3, none⟩ = some (.slice a3 P.f3.length c3) from ⟨qA.at rfl, qA.at rfl, qA.at rfl, qA.at rfl⟩)
            refine hK.out _ _ s9 (fun hHeld => ?_)
            clear hK K
            try simp only [Act.put, List.setIfInBounds_toArray, List.set_cons_zero, List.set_cons_succ]
            refine wpAnyH_ready (rs := [9]) (by kernel_rfl) (by simp) ?_
            refine (AllReadyH.cons (List.getElem?_toArray.trans rfl) (fun K hK => ?q52_9) AllReadyH.nil)
            case q52_9 =>
              refine step_copy rfl _ _ 25 rfl 3 i0 _ 8 Try.underlying25 hi0 hz0 hz1 hz2 rfl (by omega) g1 e1 rfl 0 w.heap.size (a2) (P.f2.length) c2 (P.f2) rfl hr1 (by omega) ?_
              intro x1 y1 p1 V52_9 r1 hp hz hk hb
              have hA := hb (w.heap.size + 2) gb1
              have pb1 : w.heap.size + 2 ≤ p1 := by rcases hp with h | h <;> omega
              have m1_2 : p1 ≠ g2 := by have := e2.lt; omega
              have n0_1 : p0 ≠ p1 := by have := r0.lt; omega
              have e2 : Blk 3 g2 [] V52_9 := (hk g2 e2.lt (by omega)).trans e2
              have r0 := r0.keep (hk p0 r0.lt (by omega))
              have qA := qA.under hA (by omega)
              have qR := qR.under hA (by omega)
              have hr0 := hr0.under hA (by omega)
              have hr1 := hr1.under hA (by omega)
              have hr2 := hr2.under hA (by omega)
              have hB := hB.trans (hA.mono (by omega))
              have hsz : w.heap.size + 2 ≤ V52_9.heap.size := Nat.le_trans hsz hz
              clear hA hk hb hz hp
              have s9 := (show V52_9.cell? ⟨w.heap.size, 0, none⟩ = some (.int .i64 P.f0) ∧ V52_9.cell? ⟨w.heap.size, 1, none⟩ = some (.slice a1 P.f1.length c1) ∧ V52_9.cell? ⟨w.heap.size, 2, none⟩ = some (.slice a2 P.f2.length c2) ∧ V52_9.cell? ⟨w.heap.size, 3, none⟩ = some (.slice a3 P.f3.length c3) from ⟨qA.at rfl, qA.at rfl, qA.at rfl, qA.at rfl⟩)
              refine hK.out _ _ s9 (fun hHeld => ?_)
              clear hK K
              try simp only [Act.put, List.setIfInBounds_toArray, List.set_cons_zero, List.set_cons_succ]
              refine wpAnyH_ready (rs := [13]) (by kernel_rfl) (by simp) ?_
              refine (AllReadyH.cons (List.getElem?_toArray.trans rfl) (fun K hK => ?q53_13) AllReadyH.nil)
              case q53_13 =>
                refine step_copy rfl _ _ 25 rfl 3 i0 _ 8 Try.underlying25 hi0 hz0 hz1 hz2 rfl (by omega) g2 e2 rfl 0 w.heap.size (a3) (P.f3.length) c3 (P.f3) rfl hr2 (by omega) ?_
                intro x2 y2 p2 V53_13 r2 hp hz hk hb
                have hA := hb (w.heap.size + 2) gb2
                have pb2 : w.heap.size + 2 ≤ p2 := by rcases hp with h | h <;> omega
                have n0_2 : p0 ≠ p2 := by have := r0.lt; omega
                have n1_2 : p1 ≠ p2 := by have := r1.lt; omega
                have r0 := r0.keep (hk p0 r0.lt (by omega))
                have r1 := r1.keep (hk p1 r1.lt (by omega))
                have qA := qA.under hA (by omega)
                have qR := qR.under hA (by omega)
                have hr0 := hr0.under hA (by omega)
                have hr1 := hr1.under hA (by omega)
                have hr2 := hr2.under hA (by omega)
                have hB := hB.trans (hA.mono (by omega))
                have hsz : w.heap.size + 2 ≤ V53_13.heap.size := Nat.le_trans hsz hz
                clear hA hk hb hz hp
                have s9 := (show V53_13.cell? ⟨w.heap.size, 0, none⟩ = some (.int .i64 P.f0) ∧ V53_13.cell? ⟨w.heap.size, 1, none⟩ = some (.slice a1 P.f1.length c1) ∧ V53_13.cell? ⟨w.heap.size, 2, none⟩ = some (.slice a2 P.f2.length c2) ∧ V53_13.cell? ⟨w.heap.size, 3, none⟩ = some (.slice a3 P.f3.length c3) from ⟨qA.at rfl, qA.at rfl, qA.at rfl, qA.at rfl⟩)
                refine hK.out _ _ s9 (fun hHeld => ?_)
                clear hK K
                try simp only [Act.put, List.setIfInBounds_toArray, List.set_cons_zero, List.set_cons_succ]
                refine wpAnyH_take (i := 14) (v := ?vb15) (List.getElem?_toArray.trans rfl) (by kernel_rfl) (by kernel_rfl) (by kernel_rfl) (fun _ _ _ h => h) (Or.inl ⟨by rfl, ?yb15⟩) (by assumption) ?rb15
                case yb15 => (intro w hSw; (try dsimp only at hSw); go_simp; try with_reducible rfl)
                try simp only [Act.put, List.setIfInBounds_toArray, List.set_cons_zero, List.set_cons_succ]
                refine wpAnyH_ready (rs := [15]) (by kernel_rfl) (by simp) ?_
                refine AllReadyH.cons (List.getElem?_toArray.trans rfl) (fun K hK => ?_) AllReadyH.nil
                have z0 := qR.at (x := 0) rfl
                have z1 := qR.at (x := 1) rfl
                have z2 := qR.at (x := 2) rfl
                have z3 := qR.at (x := 3) rfl
                have d0 := qR.free 0
                have d1 := qR.free 1
                have d2 := qR.free 2
                have d3 := qR.free 3
                have qF := (((qR.set 0 (.int .i64 P.f0)).set 1 (.slice x0 P.f1.length y0)).set 2 (.slice x1 P.f2.length y1)).set 3 (.slice x2 P.f3.length y2)
                simp only [List.set_cons_zero, List.set_cons_succ] at qF
                have pA := (((qA.other (a := ⟨w.heap.size + 1, 0, none⟩) (.int .i64 P.f0) (by dsimp only; omega)).other (a := ⟨w.heap.size + 1, 1, none⟩) (.slice x0 P.f1.length y0) (by dsimp only; omega)).other (a := ⟨w.heap.size + 1, 2, none⟩) (.slice x1 P.f2.length y1) (by dsimp only; omega)).other (a := ⟨w.heap.size + 1, 3, none⟩) (.slice x2 P.f3.length y2) (by dsimp only; omega)
                have t0 := (((r0.other (q := ⟨w.heap.size + 1, 0, none⟩) (.int .i64 P.f0) (by dsimp only; omega)).other (q := ⟨w.heap.size + 1, 1, none⟩) (.slice x0 P.f1.length y0) (by dsimp only; omega)).other (q := ⟨w.heap.size + 1, 2, none⟩) (.slice x1 P.f2.length y1) (by dsimp only; omega)).other (q := ⟨w.heap.size + 1, 3, none⟩) (.slice x2 P.f3.length y2) (by dsimp only; omega)
                have t1 := (((r1.other (q := ⟨w.heap.size + 1, 0, none⟩) (.int .i64 P.f0) (by dsimp only; omega)).other (q := ⟨w.heap.size + 1, 1, none⟩) (.slice x0 P.f1.length y0) (by dsimp only; omega)).other (q := ⟨w.heap.size + 1, 2, none⟩) (.slice x1 P.f2.length y1) (by dsimp only; omega)).other (q := ⟨w.heap.size + 1, 3, none⟩) (.slice x2 P.f3.length y2) (by dsimp only; omega)
                have t2 := (((r2.other (q := ⟨w.heap.size + 1, 0, none⟩) (.int .i64 P.f0) (by dsimp only; omega)).other (q := ⟨w.heap.size + 1, 1, none⟩) (.slice x0 P.f1.length y0) (by dsimp only; omega)).other (q := ⟨w.heap.size + 1, 2, none⟩) (.slice x1 P.f2.length y1) (by dsimp only; omega)).other (q := ⟨w.heap.size + 1, 3, none⟩) (.slice x2 P.f3.length y2) (by dsimp only; omega)
                have hF := (((hB.setCell (p := ⟨w.heap.size + 1, 0, none⟩) (by dsimp only; omega) (.int .i64 P.f0)).setCell (p := ⟨w.heap.size + 1, 1, none⟩) (by dsimp only; omega) (.slice x0 P.f1.length y0)).setCell (p := ⟨w.heap.size + 1, 2, none⟩) (by dsimp only; omega) (.slice x1 P.f2.length y1)).setCell (p := ⟨w.heap.size + 1, 3, none⟩) (by dsimp only; omega) (.slice x2 P.f3.length y2)
                go_simp
                obtain ⟨VF, hVF⟩ : ∃ VF, (((V53_13.setCell ⟨w.heap.size + 1, 0, none⟩ (.int .i64 P.f0)).setCell ⟨w.heap.size + 1, 1, none⟩ (.slice x0 P.f1.length y0)).setCell ⟨w.heap.size + 1, 2, none⟩ (.slice x1 P.f2.length y1)).setCell ⟨w.heap.size + 1, 3, none⟩ (.slice x2 P.f3.length y2) = VF := ⟨_, rfl⟩
                rw [hVF] at qF pA hF t0 t1 t2 ⊢
                have s9 : VF.cell? ⟨w.heap.size, 0, none⟩ = some (.int .i64 P.f0) ∧ VF.cell? ⟨w.heap.size, 1, none⟩ = some (.slice a1 P.f1.length c1) ∧ VF.cell? ⟨w.heap.size, 2, none⟩ = some (.slice a2 P.f2.length c2) ∧ VF.cell? ⟨w.heap.size, 3, none⟩ = some (.slice a3 P.f3.length c3) := ⟨pA.at rfl, pA.at rfl, pA.at rfl, pA.at rfl⟩
                refine hK.out _ _ s9 (fun hHeld => ?_)
                clear hK K
                try simp only [Act.put, List.setIfInBounds_toArray, List.set_cons_zero, List.set_cons_succ]
                refine wpAnyH_done (by kernel_rfl) ?_ _
                go_wp2_with fail
                go_meet
                case rel => exact ⟨_, rfl, rfl, x0, y0, p0, x1, y1, p1, x2, y2, p2, qF, t0, t1, t2, pb0, pb1, pb2, n0_1, n0_2, n1_2, hF⟩

  case rest =>
  obtain ⟨V, rfl, rfl, x1, y1, p1, x2, y2, p2, x3, y3, p3, qF, r1, r2, r3, b1, b2, b3, h12, h13, h23, hF⟩ := hcut
  have g0 := qF.at (x := 0) rfl
  have g1 := qF.at (x := 1) rfl
  have g2 := qF.at (x := 2) rfl
  have g3 := qF.at (x := 3) rfl
  go_wp2
  refine bodyPost_ret (v := .agg #[.int .i64 P.f0, .slice x1 P.f1.length y1, .slice x2 P.f2.length y2, .slice x3 P.f3.length y3]) (by simp [results, Try.results65, go_sem, g0, g1, g2, g3]) rfl ?_
  exact given_three r1 r2 r3 (by omega) (by omega) (by omega) h12 h13 h23 hF
end Go.Proofs.Ytbohkohccnieiaa.Mach
