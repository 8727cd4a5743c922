/-
  The draws of what a step needs, and of what comes from outside.
  Conditions: the bytes lie below the cursor's block.
-/
import Derived.Test.YtagnhfalmefbhaaDraws12
import Derived.Test.YtagnhfalmefbhaaDraws5
import Derived.Test.YtagnhfalmefbhaaAsk9
import Derived.Test.YtagnhfalmefbhaaGWant
namespace Go.Proofs.Ytagnhfalmefbhaa.Draw
set_option linter.unusedVariables false
open Go Go.RowKit Go.Proofs.Ytagnhfalmefbhaa.Mem Go.Proofs.Ytagnhfalmefbhaa.Gen Go.Proofs.Ytagnhfalmefbhaa.Adr Go.Proofs.Ytagnhfalmefbhaa.Res Go.Proofs.Ytagnhfalmefbhaa.Sites

def IsWant (B p : Nat) (w : World) (e : Ending) (w' : World) : Prop :=
  ∃ W : TWant, e = .returned (.agg #[.int .i64 W.f0, .int .i64 W.f1.f0, .int .i64 W.f1.f1, .int .i64 W.f1.f2]) ∧ WfA W.f1 ∧ (Lit.int .i64 W.f0).wf = true ∧ Cur 97 B p w' ∧ Only p w w'

set_option maxHeartbeats 4000000 in
set_option maxRecDepth 100000 in
theorem want12 (B p lo hi : Nat) (w : World) (hc : Cur 97 B p w) (P : TVisit) (a0 : Option Addr) (c0 : Nat) (a3 : Option Addr) (c3 : Nat) (hL : Lies lo hi w (dVersion P.f0) (.slice a0 P.f0.length c0)) (hp : p < lo) (hh : hi ≤ w.heap.size) (hn : P.f0.length ≤ 1048576) :
    Calls Try.prog 33 #[.pointer (some ⟨p, 0, none⟩), .agg #[.slice a0 P.f0.length c0, .int .i64 P.f1, .int .i64 P.f2, .slice a3 P.f3.length c3]] w (IsWant B p w) := by
  have hpl := hc.lt
  have hBp := hc.1
  obtain ⟨W0, hW0⟩ : ∃ Z, (w.alloc (.cells #[.slice a0 P.f0.length c0, .int .i64 P.f1, .int .i64 P.f2, .slice a3 P.f3.length c3] 27)).alloc (.cells #[.int .i64 0, .int .i64 0, .int .i64 0, .int .i64 0] 31) = Z := ⟨_, rfl⟩
  have qV : Blk 27 w.heap.size [.slice a0 P.f0.length c0, .int .i64 P.f1, .int .i64 P.f2, .slice a3 P.f3.length c3] W0 := by rw [← hW0]; exact (Blk.new _ [_, _, _, _] w).alloc _
  have qR : Blk 31 (w.heap.size + 1) [.int .i64 0, .int .i64 0, .int .i64 0, .int .i64 0] W0 := by
    have := Blk.new 31 [.int .i64 0, .int .i64 0, .int .i64 0, .int .i64 0] (w.alloc (.cells #[.slice a0 P.f0.length c0, .int .i64 P.f1, .int .i64 P.f2, .slice a3 P.f3.length c3] 27))
    rw [gsize_alloc] at this
    rw [← hW0]; exact this
  have hA0 : Below w.heap.size w W0 := by rw [← hW0]; exact ((Below.refl _ _).alloc (Nat.le_refl _) _).alloc (by rw [gsize_alloc]; omega) _
  have hc0 := hc.below hA0
  have hO0 : Only p w W0 := Only.of_below hA0
  have hL0 := hL.below hA0
  have hz0 : w.heap.size + 2 ≤ W0.heap.size := qR.lt
  have HW := Lib.hid hW0
  clear hW0 hA0 hc hL
  go_enter Try.func33, Try.ntmps33
  go_upto_region 1 with fail
  try rw [HW.out]
  go_wp2_with fail
  go_at_call 65
  refine (below_any B p _ _ hc0 (by omega) (by omega)).mono ?_
  rintro e w1 ⟨⟨k, hk, rfl⟩, hc1, ho1⟩
  have hk6 : k < 6 := by simpa using hk
  have hs1 := ho1.size
  have qV : Blk 27 w.heap.size [.slice a0 P.f0.length c0, .int .i64 P.f1, .int .i64 P.f2, .slice a3 P.f3.length c3] w1 := (ho1.block _ qV.lt (by omega)).trans qV
  have qR : Blk 31 (w.heap.size + 1) [.int .i64 0, .int .i64 0, .int .i64 0, .int .i64 0] w1 := (ho1.block _ qR.lt (by omega)).trans qR
  have hL1 := hL0.keep (w' := w1) fun i hi' h1 _ => ho1.block i hi' (by omega)
  have hO1 := hO0.trans ho1
  obtain ⟨W2, hW2⟩ : ∃ Z, w1.alloc (.cells #[.int .i64 (k : Int), .int .i64 0, .int .i64 0, .int .i64 0] 31) = Z := ⟨_, rfl⟩
  have qB : Blk 31 w1.heap.size [.int .i64 (k : Int), .int .i64 0, .int .i64 0, .int .i64 0] W2 := by rw [← hW2]; exact Blk.new _ [_, _, _, _] w1
  have hA2 : Below w1.heap.size w1 W2 := by rw [← hW2]; exact (Below.refl _ _).alloc (Nat.le_refl _) _
  have qV := qV.below hA2
  have qR := qR.below hA2
  have hL2 := hL1.below hA2
  have hc2 := hc1.below hA2
  have hO2 := hO1.trans (Only.of_below hA2)
  have hs2 := hA2.size
  have HW2 := Lib.hid hW2
  clear hW2 hA2 hL1 hc1 ho1 hO1 hL0 hc0 hO0 hk
  obtain ⟨b, hb⟩ : ∃ b, w1.heap.size = b := ⟨_, rfl⟩
  rw [hb] at qB hs2
  have hbw : w.heap.size + 2 ≤ b := by omega
  have hb2 := qB.lt
  have HB := Lib.hid hb
  clear hb
  go_upto_region 2 with fail
  try rw [HW2.out]
  simp only [HB.out]
  by_cases k1 : k = 1
  · subst k1
    have x0 : W2.cell? ⟨b, 0, none⟩ = some (.int .i64 1) := qB.at rfl
    have x1 : W2.cell? ⟨b, 1, none⟩ = some (.int .i64 0) := qB.at rfl
    have x2 : W2.cell? ⟨b, 2, none⟩ = some (.int .i64 0) := qB.at rfl
    have x3 : W2.cell? ⟨b, 3, none⟩ = some (.int .i64 0) := qB.at rfl
    have v0 : W2.cell? ⟨w.heap.size, 0, none⟩ = some (.slice a0 P.f0.length c0) := qV.at rfl
    go_wp2_with fail
    go_at_call 67
    refine (ask9 B p lo hi W2 hc2 hp a0 c0 P.f0.length P.f0 hL2 hn).mono ?_
    rintro e w3 ⟨⟨A, hA, rfl⟩, hc3, ho3⟩
    have qB : Blk 31 b [.int .i64 (1 : Nat), .int .i64 0, .int .i64 0, .int .i64 0] w3 := (ho3.block _ qB.lt (by omega)).trans qB
    have qR : Blk 31 (w.heap.size + 1) [.int .i64 0, .int .i64 0, .int .i64 0, .int .i64 0] w3 := (ho3.block _ qR.lt (by omega)).trans qR
    have hO3 := hO2.trans ho3
    clear x0 x1 x2 x3 v0 hc2 ho3 hO2
    have x0 : w3.cell? ⟨b, 0, none⟩ = some (.int .i64 1) := qB.at rfl
    have x1 : w3.cell? ⟨b, 1, none⟩ = some (.int .i64 0) := qB.at rfl
    have x2 : w3.cell? ⟨b, 2, none⟩ = some (.int .i64 0) := qB.at rfl
    have x3 : w3.cell? ⟨b, 3, none⟩ = some (.int .i64 0) := qB.at rfl
    have f0 := qB.free 0
    have f1 := qB.free 1
    have f2 := qB.free 2
    have f3 := qB.free 3
    have z0 : w3.cell? ⟨w.heap.size + 1, 0, none⟩ = some (.int .i64 0) := qR.at rfl
    have z1 : w3.cell? ⟨w.heap.size + 1, 1, none⟩ = some (.int .i64 0) := qR.at rfl
    have z2 : w3.cell? ⟨w.heap.size + 1, 2, none⟩ = some (.int .i64 0) := qR.at rfl
    have z3 : w3.cell? ⟨w.heap.size + 1, 3, none⟩ = some (.int .i64 0) := qR.at rfl
    obtain ⟨VA, hVA⟩ : ∃ U, ((w3.setCell ⟨b, 1, none⟩ (.int .i64 A.f0)).setCell ⟨b, 2, none⟩ (.int .i64 A.f1)).setCell ⟨b, 3, none⟩ (.int .i64 A.f2) = U := ⟨_, rfl⟩
    have qA := ((qB.set 1 (.int .i64 A.f0)).set 2 (.int .i64 A.f1)).set 3 (.int .i64 A.f2)
    simp only [List.set_cons_zero, List.set_cons_succ] at qA
    have qRA := ((qR.other (a := ⟨b, 1, none⟩) (.int .i64 A.f0) (by dsimp only; omega)).other (a := ⟨b, 2, none⟩) (.int .i64 A.f1) (by dsimp only; omega)).other (a := ⟨b, 3, none⟩) (.int .i64 A.f2) (by dsimp only; omega)
    have hcA := ((hc3.only_new (a := ⟨b, 1, none⟩) (by dsimp only; omega) (by dsimp only; omega) (.int .i64 A.f0)).only_new (a := ⟨b, 2, none⟩) (by dsimp only; omega) (by dsimp only; omega) (.int .i64 A.f1)).only_new (a := ⟨b, 3, none⟩) (by dsimp only; omega) (by dsimp only; omega) (.int .i64 A.f2)
    have hOA := ((hO3.setNew (a := ⟨b, 1, none⟩) (by dsimp only; omega) (.int .i64 A.f0)).setNew (a := ⟨b, 2, none⟩) (by dsimp only; omega) (.int .i64 A.f1)).setNew (a := ⟨b, 3, none⟩) (by dsimp only; omega) (.int .i64 A.f2)
    rw [hVA] at qA qRA hcA hOA
    go_upto_region 4 with fail
    try rw [hVA]
    clear hVA x0 x1 x2 x3 f0 f1 f2 f3 z0 z1 z2 z3 qB qR hc3 hO3
    have y0 : VA.cell? ⟨b, 0, none⟩ = some (.int .i64 1) := qA.at rfl
    have y1 : VA.cell? ⟨b, 1, none⟩ = some (.int .i64 A.f0) := qA.at rfl
    have y2 : VA.cell? ⟨b, 2, none⟩ = some (.int .i64 A.f1) := qA.at rfl
    have y3 : VA.cell? ⟨b, 3, none⟩ = some (.int .i64 A.f2) := qA.at rfl
    have z0 : VA.cell? ⟨w.heap.size + 1, 0, none⟩ = some (.int .i64 0) := qRA.at rfl
    have z1 : VA.cell? ⟨w.heap.size + 1, 1, none⟩ = some (.int .i64 0) := qRA.at rfl
    have z2 : VA.cell? ⟨w.heap.size + 1, 2, none⟩ = some (.int .i64 0) := qRA.at rfl
    have z3 : VA.cell? ⟨w.heap.size + 1, 3, none⟩ = some (.int .i64 0) := qRA.at rfl
    have f0 := qRA.free 0
    have f1 := qRA.free 1
    have f2 := qRA.free 2
    have f3 := qRA.free 3
    obtain ⟨VF, hVF⟩ : ∃ U, ((((VA.setCell ⟨w.heap.size + 1, 0, none⟩ (.int .i64 1)).setCell ⟨w.heap.size + 1, 1, none⟩ (.int .i64 A.f0)).setCell ⟨w.heap.size + 1, 2, none⟩ (.int .i64 A.f1)).setCell ⟨w.heap.size + 1, 3, none⟩ (.int .i64 A.f2)) = U := ⟨_, rfl⟩
    have qF := ((((qRA.set 0 (.int .i64 1)).set 1 (.int .i64 A.f0)).set 2 (.int .i64 A.f1)).set 3 (.int .i64 A.f2))
    simp only [List.set_cons_zero, List.set_cons_succ] at qF
    have hcF := ((((hcA.only_new (a := ⟨w.heap.size + 1, 0, none⟩) (by dsimp only; omega) (by dsimp only; omega) (.int .i64 1)).only_new (a := ⟨w.heap.size + 1, 1, none⟩) (by dsimp only; omega) (by dsimp only; omega) (.int .i64 A.f0)).only_new (a := ⟨w.heap.size + 1, 2, none⟩) (by dsimp only; omega) (by dsimp only; omega) (.int .i64 A.f1)).only_new (a := ⟨w.heap.size + 1, 3, none⟩) (by dsimp only; omega) (by dsimp only; omega) (.int .i64 A.f2))
    have hOF := ((((hOA.setNew (a := ⟨w.heap.size + 1, 0, none⟩) (by dsimp only; omega) (.int .i64 1)).setNew (a := ⟨w.heap.size + 1, 1, none⟩) (by dsimp only; omega) (.int .i64 A.f0)).setNew (a := ⟨w.heap.size + 1, 2, none⟩) (by dsimp only; omega) (.int .i64 A.f1)).setNew (a := ⟨w.heap.size + 1, 3, none⟩) (by dsimp only; omega) (.int .i64 A.f2))
    rw [hVF] at qF hcF hOF
    have g0 : VF.cell? ⟨w.heap.size + 1, 0, none⟩ = some (.int .i64 1) := qF.at rfl
    have g1 : VF.cell? ⟨w.heap.size + 1, 1, none⟩ = some (.int .i64 A.f0) := qF.at rfl
    have g2 : VF.cell? ⟨w.heap.size + 1, 2, none⟩ = some (.int .i64 A.f1) := qF.at rfl
    have g3 : VF.cell? ⟨w.heap.size + 1, 3, none⟩ = some (.int .i64 A.f2) := qF.at rfl
    have HVF := Lib.hid hVF
    clear hVF qF
    go_wp2
    rw [HVF.out]
    refine bodyPost_ret (v := .agg #[.int .i64 1, .int .i64 A.f0, .int .i64 A.f1, .int .i64 A.f2]) (by simp [results, Try.results33, go_sem, g0, g1, g2, g3]) rfl ?_
    exact ⟨⟨1, A⟩, rfl, hA, rfl, hcF, hOF⟩
  · have k1' : ((k : Int) == 1) = false := by simp; omega
    have x0 : W2.cell? ⟨b, 0, none⟩ = some (.int .i64 (k : Int)) := qB.at rfl
    have x1 : W2.cell? ⟨b, 1, none⟩ = some (.int .i64 0) := qB.at rfl
    have x2 : W2.cell? ⟨b, 2, none⟩ = some (.int .i64 0) := qB.at rfl
    have x3 : W2.cell? ⟨b, 3, none⟩ = some (.int .i64 0) := qB.at rfl
    go_upto_region 4 with fail
    clear x0 x1 x2 x3
    have y0 : W2.cell? ⟨b, 0, none⟩ = some (.int .i64 (k : Int)) := qB.at rfl
    have y1 : W2.cell? ⟨b, 1, none⟩ = some (.int .i64 0) := qB.at rfl
    have y2 : W2.cell? ⟨b, 2, none⟩ = some (.int .i64 0) := qB.at rfl
    have y3 : W2.cell? ⟨b, 3, none⟩ = some (.int .i64 0) := qB.at rfl
    have z0 : W2.cell? ⟨w.heap.size + 1, 0, none⟩ = some (.int .i64 0) := qR.at rfl
    have z1 : W2.cell? ⟨w.heap.size + 1, 1, none⟩ = some (.int .i64 0) := qR.at rfl
    have z2 : W2.cell? ⟨w.heap.size + 1, 2, none⟩ = some (.int .i64 0) := qR.at rfl
    have z3 : W2.cell? ⟨w.heap.size + 1, 3, none⟩ = some (.int .i64 0) := qR.at rfl
    have f0 := qR.free 0
    have f1 := qR.free 1
    have f2 := qR.free 2
    have f3 := qR.free 3
    obtain ⟨VF, hVF⟩ : ∃ U, ((((W2.setCell ⟨w.heap.size + 1, 0, none⟩ (.int .i64 (k : Int))).setCell ⟨w.heap.size + 1, 1, none⟩ (.int .i64 0)).setCell ⟨w.heap.size + 1, 2, none⟩ (.int .i64 0)).setCell ⟨w.heap.size + 1, 3, none⟩ (.int .i64 0)) = U := ⟨_, rfl⟩
    have qF := ((((qR.set 0 (.int .i64 (k : Int))).set 1 (.int .i64 0)).set 2 (.int .i64 0)).set 3 (.int .i64 0))
    simp only [List.set_cons_zero, List.set_cons_succ] at qF
    have hcF := ((((hc2.only_new (a := ⟨w.heap.size + 1, 0, none⟩) (by dsimp only; omega) (by dsimp only; omega) (.int .i64 (k : Int))).only_new (a := ⟨w.heap.size + 1, 1, none⟩) (by dsimp only; omega) (by dsimp only; omega) (.int .i64 0)).only_new (a := ⟨w.heap.size + 1, 2, none⟩) (by dsimp only; omega) (by dsimp only; omega) (.int .i64 0)).only_new (a := ⟨w.heap.size + 1, 3, none⟩) (by dsimp only; omega) (by dsimp only; omega) (.int .i64 0))
    have hOF := ((((hO2.setNew (a := ⟨w.heap.size + 1, 0, none⟩) (by dsimp only; omega) (.int .i64 (k : Int))).setNew (a := ⟨w.heap.size + 1, 1, none⟩) (by dsimp only; omega) (.int .i64 0)).setNew (a := ⟨w.heap.size + 1, 2, none⟩) (by dsimp only; omega) (.int .i64 0)).setNew (a := ⟨w.heap.size + 1, 3, none⟩) (by dsimp only; omega) (.int .i64 0))
    rw [hVF] at qF hcF hOF
    have g0 : VF.cell? ⟨w.heap.size + 1, 0, none⟩ = some (.int .i64 (k : Int)) := qF.at rfl
    have g1 : VF.cell? ⟨w.heap.size + 1, 1, none⟩ = some (.int .i64 0) := qF.at rfl
    have g2 : VF.cell? ⟨w.heap.size + 1, 2, none⟩ = some (.int .i64 0) := qF.at rfl
    have g3 : VF.cell? ⟨w.heap.size + 1, 3, none⟩ = some (.int .i64 0) := qF.at rfl
    have HVF := Lib.hid hVF
    clear hVF qF
    go_wp2
    rw [HVF.out]
    refine bodyPost_ret (v := .agg #[.int .i64 (k : Int), .int .i64 0, .int .i64 0, .int .i64 0]) (by simp [results, Try.results33, go_sem, g0, g1, g2, g3]) rfl ?_
    exact ⟨⟨(k : Int), ⟨0, 0, 0⟩⟩, rfl, ⟨rfl, rfl, rfl⟩, WalkArith.wf_i64 (by dsimp only; omega), hcF, hOF⟩

/-- What comes from outside: a visit, what a step needs, a number. -/
def IsLive (w : World) (e : Ending) (w' : World) : Prop :=
  ∃ (P : TVisit) (a0 : Option Addr) (c0 : Nat) (a3 : Option Addr) (c3 : Nat) (W : TWant) (n : Int), e = .returned (.tuple #[.agg #[.slice a0 P.f0.length c0, .int .i64 P.f1, .int .i64 P.f2, .slice a3 P.f3.length c3], .agg #[.int .i64 W.f0, .int .i64 W.f1.f0, .int .i64 W.f1.f1, .int .i64 W.f1.f2], .int .i64 n]) ∧ Lies 0 w'.heap.size w' (dVersion P.f0) (.slice a0 P.f0.length c0) ∧ Lies 0 w'.heap.size w' (ints P.f3) (.slice a3 P.f3.length c3) ∧
    P.f0.length ≤ 8 ∧ Brief P.f0 ∧ P.f3.length ≤ 9 ∧ I64 P.f1 ∧ I64 P.f2 ∧ WfA W.f1 ∧ (Lit.int .i64 W.f0).wf = true ∧ I64 n ∧ Below w.heap.size w w'

set_option maxHeartbeats 4000000 in
set_option maxRecDepth 100000 in
theorem draw_live (B : Nat) (a : Option Addr) (n c : Nat) (w : World) (hb : Bytes B w a n) (hB0 : B ≤ w.heap.size) :
    Calls Try.prog 9 #[.slice a n c] w (IsLive w) := by
  obtain ⟨W0, hW0⟩ : ∃ Z, (w.alloc (.cells #[.slice none 0 0, .int .i64 0, .int .i64 0, .slice none 0 0] 27)).alloc (.cells #[.int .i64 0, .int .i64 0, .int .i64 0, .int .i64 0] 31) = Z := ⟨_, rfl⟩
  have q2 : Blk 27 w.heap.size [.slice none 0 0, .int .i64 0, .int .i64 0, .slice none 0 0] W0 := by rw [← hW0]; exact (Blk.new _ [_, _, _, _] w).alloc _
  have q3 : Blk 31 (w.heap.size + 1) [.int .i64 0, .int .i64 0, .int .i64 0, .int .i64 0] W0 := by
    have := Blk.new 31 [.int .i64 0, .int .i64 0, .int .i64 0, .int .i64 0] (w.alloc (.cells #[.slice none 0 0, .int .i64 0, .int .i64 0, .slice none 0 0] 27))
    rw [gsize_alloc] at this
    rw [← hW0]; exact this
  have hB : Below w.heap.size w W0 := by rw [← hW0]; exact ((Below.refl _ _).alloc (Nat.le_refl _) _).alloc (by rw [gsize_alloc]; omega) _
  have hz0 : W0.heap.size = w.heap.size + 2 := by rw [← hW0, gsize_alloc, gsize_alloc]
  have HW := Lib.hid hW0
  have hb' := hb.below hB
  clear hW0 hb
  go_enter Try.func9, Try.ntmps9
  go_upto_region 1 with fail
  try rw [HW.out]
  go_wp2_with fail
  go_at_call 31
  refine (new_any B a n c W0 hb' (by omega)).mono ?_
  rintro e w1 ⟨rfl, hc1, hb1⟩
  have q2 := q2.below hb1
  have q3 := q3.below hb1
  have hB := hB.trans (hb1.mono hB.size)
  obtain ⟨p, hp⟩ : ∃ p, W0.heap.size = p := ⟨_, rfl⟩
  rw [hp] at hc1 hz0
  try rw [hp]
  have hpw : w.heap.size + 2 ≤ p := by omega
  clear hb1 hb' hp HW hz0
  have hpl := hc1.lt
  go_wp2_with fail
  go_at_call 32
  refine (any12 B p w1 hc1).mono ?_
  rintro e w2 ⟨P, a0, c0, a3, c3, rfl, hL0, hL3, hl8, hbr, hl9, ht, hs, hc2, ho2⟩
  obtain ⟨l, t, s, zs⟩ := P
  dsimp only at hL0 hL3 hl8 hbr hl9 ht hs ⊢
  obtain ⟨m0, hm0⟩ : ∃ m, l.length = m := ⟨_, rfl⟩
  obtain ⟨m3, hm3⟩ : ∃ m, zs.length = m := ⟨_, rfl⟩
  rw [hm0] at hL0 hl8 ⊢
  rw [hm3] at hL3 hl9 ⊢
  have HM0 := Lib.hid hm0
  have HM3 := Lib.hid hm3
  clear hm0 hm3
  have hs2 := ho2.size
  have q2 : Blk 27 w.heap.size [.slice none 0 0, .int .i64 0, .int .i64 0, .slice none 0 0] w2 := (ho2.block _ q2.lt (by omega)).trans q2
  have q3 : Blk 31 (w.heap.size + 1) [.int .i64 0, .int .i64 0, .int .i64 0, .int .i64 0] w2 := (ho2.block _ q3.lt (by omega)).trans q3
  have hB := hB.trans (ho2.below (B := w.heap.size) (by omega) hB.size)
  obtain ⟨W3, hW3⟩ : ∃ Z, w2.alloc (.cells #[.slice a0 m0 c0, .int .i64 t, .int .i64 s, .slice a3 m3 c3] 27) = Z := ⟨_, rfl⟩
  have qB : Blk 27 w2.heap.size [.slice a0 m0 c0, .int .i64 t, .int .i64 s, .slice a3 m3 c3] W3 := by rw [← hW3]; exact Blk.new _ [_, _, _, _] w2
  have hA3 : Below w2.heap.size w2 W3 := by rw [← hW3]; exact (Below.refl _ _).alloc (Nat.le_refl _) _
  have q2 := q2.below hA3
  have q3 := q3.below hA3
  have hL0 := hL0.below hA3
  have hL3 := hL3.below hA3
  have hc3 := hc2.below hA3
  have hB := hB.trans (hA3.mono hB.size)
  have hs3 := hA3.size
  have HW3 := Lib.hid hW3
  clear hW3 hA3 hc2 ho2 hc1
  obtain ⟨b, hb⟩ : ∃ b, w2.heap.size = b := ⟨_, rfl⟩
  rw [hb] at qB hs2 hs3 hL0 hL3
  have HB := Lib.hid hb
  have hbl := qB.lt
  clear hb
  go_upto_region 3 with fail
  try rw [HW3.out]
  simp only [HB.out]
  have x0 : W3.cell? ⟨b, 0, none⟩ = some (.slice a0 m0 c0) := qB.at rfl
  have x1 : W3.cell? ⟨b, 1, none⟩ = some (.int .i64 t) := qB.at rfl
  have x2 : W3.cell? ⟨b, 2, none⟩ = some (.int .i64 s) := qB.at rfl
  have x3 : W3.cell? ⟨b, 3, none⟩ = some (.slice a3 m3 c3) := qB.at rfl
  have hwant := want12 B p w1.heap.size b W3 hc3 ⟨l, t, s, zs⟩ a0 c0 a3 c3 (by rw [← HM0.out] at hL0; exact hL0) hpl (by omega) (by dsimp only; rw [HM0.out]; omega)
  dsimp only at hwant
  rw [HM0.out, HM3.out] at hwant
  go_wp2_with fail
  go_at_call 33
  refine hwant.mono ?_
  rintro e w4 ⟨W, rfl, hWA, hWk, hc4, ho4⟩
  clear hwant
  obtain ⟨k, h1, h2, h3⟩ := W
  dsimp only at hWA hWk ⊢
  have hs4 := ho4.size
  have qB : Blk 27 b [.slice a0 m0 c0, .int .i64 t, .int .i64 s, .slice a3 m3 c3] w4 := (ho4.block _ qB.lt (by omega)).trans qB
  have q2 : Blk 27 w.heap.size [.slice none 0 0, .int .i64 0, .int .i64 0, .slice none 0 0] w4 := (ho4.block _ q2.lt (by omega)).trans q2
  have q3 : Blk 31 (w.heap.size + 1) [.int .i64 0, .int .i64 0, .int .i64 0, .int .i64 0] w4 := (ho4.block _ q3.lt (by omega)).trans q3
  have hL0 := hL0.keep (w' := w4) fun i hi h1 h2 => ho4.block i hi (by omega)
  have hL3 := hL3.keep (w' := w4) fun i hi h1 h2 => ho4.block i hi (by omega)
  have hB := hB.trans (ho4.below (B := w.heap.size) (by omega) hB.size)
  clear x0 x1 x2 x3 hc3 ho4
  obtain ⟨W5, hW5⟩ : ∃ Z, w4.alloc (.cells #[.int .i64 k, .int .i64 h1, .int .i64 h2, .int .i64 h3] 31) = Z := ⟨_, rfl⟩
  have qD : Blk 31 w4.heap.size [.int .i64 k, .int .i64 h1, .int .i64 h2, .int .i64 h3] W5 := by rw [← hW5]; exact Blk.new _ [_, _, _, _] w4
  have hA5 : Below w4.heap.size w4 W5 := by rw [← hW5]; exact (Below.refl _ _).alloc (Nat.le_refl _) _
  have qB := qB.below hA5
  have q2 := q2.below hA5
  have q3 := q3.below hA5
  have hL0 := hL0.below hA5
  have hL3 := hL3.below hA5
  have hc5 := hc4.below hA5
  have hB := hB.trans (hA5.mono hB.size)
  have hs5' := hA5.size
  have HW5 := Lib.hid hW5
  clear hW5 hA5 hc4
  obtain ⟨d, hd⟩ : ∃ b, w4.heap.size = b := ⟨_, rfl⟩
  rw [hd] at qD hs4 hs5'
  have HD := Lib.hid hd
  clear hd
  go_upto_region 4 with fail
  try rw [HW5.out]
  simp only [HD.out]
  obtain ⟨V4, hV4⟩ : ∃ V, W5.drew = V := ⟨_, rfl⟩
  have hA : Below W5.heap.size W5 V4 := by rw [← hV4]; exact gbelow_drewN (Below.refl _ _) 1
  have qB := qB.below hA
  have qD := qD.below hA
  have q2 := q2.below hA
  have q3 := q3.below hA
  have hL0 := hL0.below hA
  have hL3 := hL3.below hA
  have hc := hc5.below hA
  have hB := hB.trans (hA.mono hB.size)
  have hsv := hA.size
  have hdl := qD.lt
  have hcp := hc.lt
  clear hA hc5
  have s9 : V4.cell? ⟨b, 0, none⟩ = some (.slice a0 m0 c0) ∧ V4.cell? ⟨b, 1, none⟩ = some (.int .i64 t) ∧ V4.cell? ⟨b, 2, none⟩ = some (.int .i64 s) ∧ V4.cell? ⟨b, 3, none⟩ = some (.slice a3 m3 c3) ∧ V4.cell? ⟨d, 0, none⟩ = some (.int .i64 k) ∧ V4.cell? ⟨d, 1, none⟩ = some (.int .i64 h1) ∧ V4.cell? ⟨d, 2, none⟩ = some (.int .i64 h2) ∧ V4.cell? ⟨d, 3, none⟩ = some (.int .i64 h3) := ⟨qB.at rfl, qB.at rfl, qB.at rfl, qB.at rfl, qD.at rfl, qD.at rfl, qD.at rfl, qD.at rfl⟩
  refine wp_region_held_drew (S := (fun w' => w'.cell? ⟨b, 0, none⟩ = some (.slice a0 m0 c0) ∧ w'.cell? ⟨b, 1, none⟩ = some (.int .i64 t) ∧ w'.cell? ⟨b, 2, none⟩ = some (.int .i64 s) ∧ w'.cell? ⟨b, 3, none⟩ = some (.slice a3 m3 c3) ∧ w'.cell? ⟨d, 0, none⟩ = some (.int .i64 k) ∧ w'.cell? ⟨d, 1, none⟩ = some (.int .i64 h1) ∧ w'.cell? ⟨d, 2, none⟩ = some (.int .i64 h2) ∧ w'.cell? ⟨d, 3, none⟩ = some (.int .i64 h3))) (by kernel_rfl) (by rw [hV4]; exact s9) (fun hHeld => ?_)
  rw [hV4]
  clear hV4
  refine wpAnyH_take (i := 0) (v := ?vv0) (List.getElem?_toArray.trans rfl) (by kernel_rfl) (by kernel_rfl) (by kernel_rfl) (fun _ _ _ h => h) (Or.inl ⟨by rfl, ?yv0⟩) (by assumption) ?rv0
  case yv0 => (intro w hSw; (try dsimp only at hSw); go_simp; try with_reducible rfl)
  try simp only [Act.put, List.setIfInBounds_toArray, List.set_cons_zero, List.set_cons_succ]
  refine wpAnyH_take (i := 1) (v := ?vv1) (List.getElem?_toArray.trans rfl) (by kernel_rfl) (by kernel_rfl) (by kernel_rfl) (fun _ _ _ h => h) (Or.inl ⟨by rfl, ?yv1⟩) (by assumption) ?rv1
  case yv1 => (intro w hSw; (try dsimp only at hSw); go_simp; try with_reducible rfl)
  try simp only [Act.put, List.setIfInBounds_toArray, List.set_cons_zero, List.set_cons_succ]
  refine wpAnyH_take (i := 2) (v := ?vv2) (List.getElem?_toArray.trans rfl) (by kernel_rfl) (by kernel_rfl) (by kernel_rfl) (fun _ _ _ h => h) (Or.inl ⟨by rfl, ?yv2⟩) (by assumption) ?rv2
  case yv2 => (intro w hSw; (try dsimp only at hSw); go_simp; try with_reducible rfl)
  try simp only [Act.put, List.setIfInBounds_toArray, List.set_cons_zero, List.set_cons_succ]
  refine wpAnyH_ready (rs := [3]) (by kernel_rfl) (by simp) ?_
  refine AllReadyH.cons (List.getElem?_toArray.trans rfl) (fun K hK => ?_) AllReadyH.nil
  go_simp
  obtain ⟨V5, hV5⟩ : ∃ V, V4.alloc (.cells #[.int .i64 0, .int .i64 1, .int .i64 2, .int .i64 5, .int .i64 100, .int .i64 101, .int .i64 (-1)] 3) = V := ⟨_, rfl⟩
  obtain ⟨g5, hg5⟩ : ∃ g, V4.heap.size = g := ⟨_, rfl⟩
  have q5 : Blk 3 g5 [.int .i64 0, .int .i64 1, .int .i64 2, .int .i64 5, .int .i64 100, .int .i64 101, .int .i64 (-1)] V5 := by rw [← hV5, ← hg5]; exact Blk.new _ [_, _, _, _, _, _, _] V4
  have e5 : ∀ j (h : j < [(0 : Int), 1, 2, 5, 100, 101, -1].length), V5.cell? ⟨g5, j, none⟩ = some (.int .i64 [(0 : Int), 1, 2, 5, 100, 101, -1][j]) := fun j hj => by
    have hj7 : j = 0 ∨ j = 1 ∨ j = 2 ∨ j = 3 ∨ j = 4 ∨ j = 5 ∨ j = 6 := by simp at hj; omega
    rcases hj7 with rfl | rfl | rfl | rfl | rfl | rfl | rfl <;> exact q5.at rfl
  have hA5 : Below V4.heap.size V4 V5 := by rw [← hV5]; exact (Below.refl _ _).alloc (Nat.le_refl _) _
  have qB := qB.below hA5
  have qD := qD.below hA5
  have q2 := q2.below hA5
  have q3 := q3.below hA5
  have hc := hc.below hA5
  have hL0 := hL0.below hA5
  have hL3 := hL3.below hA5
  have hB := hB.trans (hA5.mono hB.size)
  have hs5 := hA5.size
  have hg5p : g5 ≠ p := by have := hcp; omega
  try rw [hV5]
  try rw [hg5]
  clear hV5 hg5 hA5
  have s9 : V5.cell? ⟨b, 0, none⟩ = some (.slice a0 m0 c0) ∧ V5.cell? ⟨b, 1, none⟩ = some (.int .i64 t) ∧ V5.cell? ⟨b, 2, none⟩ = some (.int .i64 s) ∧ V5.cell? ⟨b, 3, none⟩ = some (.slice a3 m3 c3) ∧ V5.cell? ⟨d, 0, none⟩ = some (.int .i64 k) ∧ V5.cell? ⟨d, 1, none⟩ = some (.int .i64 h1) ∧ V5.cell? ⟨d, 2, none⟩ = some (.int .i64 h2) ∧ V5.cell? ⟨d, 3, none⟩ = some (.int .i64 h3) := ⟨qB.at rfl, qB.at rfl, qB.at rfl, qB.at rfl, qD.at rfl, qD.at rfl, qD.at rfl, qD.at rfl⟩
  refine hK.out _ _ s9 (fun hHeld => ?_)
  clear hK K
  try simp only [Act.put, List.setIfInBounds_toArray, List.set_cons_zero, List.set_cons_succ]
  refine wpAnyH_ready (rs := [4]) (by kernel_rfl) (by simp) ?_
  refine AllReadyH.cons (List.getElem?_toArray.trans rfl) (fun K hK => ?_) AllReadyH.nil
  go_simp
  go_at_call 34
  refine (int_any B p g5 7 [(0 : Int), 1, 2, 5, 100, 101, -1] V5 hc hg5p e5 (by decide) (by decide)).mono ?_
  rintro e w6 ⟨⟨z, hz, rfl⟩, hc6, ho6⟩
  have hz' : I64 z := by simp at hz; unfold I64; omega
  have qB : Blk 27 b [.slice a0 m0 c0, .int .i64 t, .int .i64 s, .slice a3 m3 c3] w6 := (ho6.block _ qB.lt (by omega)).trans qB
  have qD : Blk 31 d [.int .i64 k, .int .i64 h1, .int .i64 h2, .int .i64 h3] w6 := (ho6.block _ qD.lt (by omega)).trans qD
  have q2 : Blk 27 w.heap.size [.slice none 0 0, .int .i64 0, .int .i64 0, .slice none 0 0] w6 := (ho6.block _ q2.lt (by omega)).trans q2
  have q3 : Blk 31 (w.heap.size + 1) [.int .i64 0, .int .i64 0, .int .i64 0, .int .i64 0] w6 := (ho6.block _ q3.lt (by omega)).trans q3
  have hL0 := hL0.keep (w' := w6) fun i hi h1 h2 => ho6.block i hi (by omega)
  have hL3 := hL3.keep (w' := w6) fun i hi h1 h2 => ho6.block i hi (by omega)
  have hB := hB.trans (ho6.below (B := w.heap.size) (by omega) hB.size)
  have hs6 := ho6.size
  clear hc hc6 ho6 e5 q5 hz
  have s9 : w6.cell? ⟨b, 0, none⟩ = some (.slice a0 m0 c0) ∧ w6.cell? ⟨b, 1, none⟩ = some (.int .i64 t) ∧ w6.cell? ⟨b, 2, none⟩ = some (.int .i64 s) ∧ w6.cell? ⟨b, 3, none⟩ = some (.slice a3 m3 c3) ∧ w6.cell? ⟨d, 0, none⟩ = some (.int .i64 k) ∧ w6.cell? ⟨d, 1, none⟩ = some (.int .i64 h1) ∧ w6.cell? ⟨d, 2, none⟩ = some (.int .i64 h2) ∧ w6.cell? ⟨d, 3, none⟩ = some (.int .i64 h3) := ⟨qB.at rfl, qB.at rfl, qB.at rfl, qB.at rfl, qD.at rfl, qD.at rfl, qD.at rfl, qD.at rfl⟩
  refine hK.out _ _ s9 (fun hHeld => ?_)
  clear hK K
  try simp only [Act.put, List.setIfInBounds_toArray, List.set_cons_zero, List.set_cons_succ]
  refine wpAnyH_ready (rs := [5]) (by kernel_rfl) (by simp) ?_
  refine AllReadyH.cons (List.getElem?_toArray.trans rfl) (fun K hK => ?_) AllReadyH.nil
  have z0 : w6.cell? ⟨w.heap.size, 0, none⟩ = some (.slice none 0 0) := q2.at rfl
  have z1 : w6.cell? ⟨w.heap.size, 1, none⟩ = some (.int .i64 0) := q2.at rfl
  have z2 : w6.cell? ⟨w.heap.size, 2, none⟩ = some (.int .i64 0) := q2.at rfl
  have z3 : w6.cell? ⟨w.heap.size, 3, none⟩ = some (.slice none 0 0) := q2.at rfl
  have f0 := q2.free 0
  have f1 := q2.free 1
  have f2 := q2.free 2
  have f3 := q2.free 3
  obtain ⟨W7, hW7⟩ : ∃ U, ((((w6.setCell ⟨w.heap.size, 0, none⟩ (.slice a0 m0 c0)).setCell ⟨w.heap.size, 1, none⟩ (.int .i64 t)).setCell ⟨w.heap.size, 2, none⟩ (.int .i64 s)).setCell ⟨w.heap.size, 3, none⟩ (.slice a3 m3 c3)) = U := ⟨_, rfl⟩
  have qN := ((((q2.set 0 (.slice a0 m0 c0)).set 1 (.int .i64 t)).set 2 (.int .i64 s)).set 3 (.slice a3 m3 c3))
  simp only [List.set_cons_zero, List.set_cons_succ] at qN
  have hkN : ∀ i, i ≠ w.heap.size → W7.heap[i]? = w6.heap[i]? := fun i hne => by rw [← hW7, heap_setCell_other _ _ i _ (by dsimp only; omega), heap_setCell_other _ _ i _ (by dsimp only; omega), heap_setCell_other _ _ i _ (by dsimp only; omega), heap_setCell_other _ _ i _ (by dsimp only; omega)]
  have hsN : W7.heap.size = w6.heap.size := by rw [← hW7]; simp only [gsize_set]
  have hBN := ((((hB.setCell (p := ⟨w.heap.size, 0, none⟩) (by dsimp only; omega) (.slice a0 m0 c0)).setCell (p := ⟨w.heap.size, 1, none⟩) (by dsimp only; omega) (.int .i64 t)).setCell (p := ⟨w.heap.size, 2, none⟩) (by dsimp only; omega) (.int .i64 s)).setCell (p := ⟨w.heap.size, 3, none⟩) (by dsimp only; omega) (.slice a3 m3 c3))
  rw [hW7] at qN hBN
  go_simp
  try rw [hW7]
  clear hW7 z0 z1 z2 z3 f0 f1 f2 f3
  have q2 := qN
  have q3 : Blk 31 (w.heap.size + 1) [.int .i64 0, .int .i64 0, .int .i64 0, .int .i64 0] W7 := (hkN _ (by omega)).trans q3
  have qB : Blk 27 b [.slice a0 m0 c0, .int .i64 t, .int .i64 s, .slice a3 m3 c3] W7 := (hkN _ (by omega)).trans qB
  have qD : Blk 31 d [.int .i64 k, .int .i64 h1, .int .i64 h2, .int .i64 h3] W7 := (hkN _ (by omega)).trans qD
  have hL0 := hL0.keep (w' := W7) fun i hi h1 h2 => hkN i (by omega)
  have hL3 := hL3.keep (w' := W7) fun i hi h1 h2 => hkN i (by omega)
  have hB := hBN
  have hzW7 : w6.heap.size ≤ W7.heap.size := by omega
  clear qN hkN hsN hBN
  have s9 : W7.cell? ⟨b, 0, none⟩ = some (.slice a0 m0 c0) ∧ W7.cell? ⟨b, 1, none⟩ = some (.int .i64 t) ∧ W7.cell? ⟨b, 2, none⟩ = some (.int .i64 s) ∧ W7.cell? ⟨b, 3, none⟩ = some (.slice a3 m3 c3) ∧ W7.cell? ⟨d, 0, none⟩ = some (.int .i64 k) ∧ W7.cell? ⟨d, 1, none⟩ = some (.int .i64 h1) ∧ W7.cell? ⟨d, 2, none⟩ = some (.int .i64 h2) ∧ W7.cell? ⟨d, 3, none⟩ = some (.int .i64 h3) := ⟨qB.at rfl, qB.at rfl, qB.at rfl, qB.at rfl, qD.at rfl, qD.at rfl, qD.at rfl, qD.at rfl⟩
  refine hK.out _ _ s9 (fun hHeld => ?_)
  clear hK K
  try simp only [Act.put, List.setIfInBounds_toArray, List.set_cons_zero, List.set_cons_succ]
  refine wpAnyH_ready (rs := [6]) (by kernel_rfl) (by simp) ?_
  refine AllReadyH.cons (List.getElem?_toArray.trans rfl) (fun K hK => ?_) AllReadyH.nil
  have z0 : W7.cell? ⟨w.heap.size + 1, 0, none⟩ = some (.int .i64 0) := q3.at rfl
  have z1 : W7.cell? ⟨w.heap.size + 1, 1, none⟩ = some (.int .i64 0) := q3.at rfl
  have z2 : W7.cell? ⟨w.heap.size + 1, 2, none⟩ = some (.int .i64 0) := q3.at rfl
  have z3 : W7.cell? ⟨w.heap.size + 1, 3, none⟩ = some (.int .i64 0) := q3.at rfl
  have f0 := q3.free 0
  have f1 := q3.free 1
  have f2 := q3.free 2
  have f3 := q3.free 3
  obtain ⟨W8, hW8⟩ : ∃ U, ((((W7.setCell ⟨w.heap.size + 1, 0, none⟩ (.int .i64 k)).setCell ⟨w.heap.size + 1, 1, none⟩ (.int .i64 h1)).setCell ⟨w.heap.size + 1, 2, none⟩ (.int .i64 h2)).setCell ⟨w.heap.size + 1, 3, none⟩ (.int .i64 h3)) = U := ⟨_, rfl⟩
  have qN := ((((q3.set 0 (.int .i64 k)).set 1 (.int .i64 h1)).set 2 (.int .i64 h2)).set 3 (.int .i64 h3))
  simp only [List.set_cons_zero, List.set_cons_succ] at qN
  have hkN : ∀ i, i ≠ w.heap.size + 1 → W8.heap[i]? = W7.heap[i]? := fun i hne => by rw [← hW8, heap_setCell_other _ _ i _ (by dsimp only; omega), heap_setCell_other _ _ i _ (by dsimp only; omega), heap_setCell_other _ _ i _ (by dsimp only; omega), heap_setCell_other _ _ i _ (by dsimp only; omega)]
  have hsN : W8.heap.size = W7.heap.size := by rw [← hW8]; simp only [gsize_set]
  have hBN := ((((hB.setCell (p := ⟨w.heap.size + 1, 0, none⟩) (by dsimp only; omega) (.int .i64 k)).setCell (p := ⟨w.heap.size + 1, 1, none⟩) (by dsimp only; omega) (.int .i64 h1)).setCell (p := ⟨w.heap.size + 1, 2, none⟩) (by dsimp only; omega) (.int .i64 h2)).setCell (p := ⟨w.heap.size + 1, 3, none⟩) (by dsimp only; omega) (.int .i64 h3))
  rw [hW8] at qN hBN
  go_simp
  try rw [hW8]
  clear hW8 z0 z1 z2 z3 f0 f1 f2 f3
  have q3 := qN
  have q2 : Blk 27 w.heap.size [.slice a0 m0 c0, .int .i64 t, .int .i64 s, .slice a3 m3 c3] W8 := (hkN _ (by omega)).trans q2
  have qB : Blk 27 b [.slice a0 m0 c0, .int .i64 t, .int .i64 s, .slice a3 m3 c3] W8 := (hkN _ (by omega)).trans qB
  have qD : Blk 31 d [.int .i64 k, .int .i64 h1, .int .i64 h2, .int .i64 h3] W8 := (hkN _ (by omega)).trans qD
  have hL0 := hL0.keep (w' := W8) fun i hi h1 h2 => hkN i (by omega)
  have hL3 := hL3.keep (w' := W8) fun i hi h1 h2 => hkN i (by omega)
  have hB := hBN
  have hzW8 : w6.heap.size ≤ W8.heap.size := by omega
  clear qN hkN hsN hBN
  have s9 : W8.cell? ⟨b, 0, none⟩ = some (.slice a0 m0 c0) ∧ W8.cell? ⟨b, 1, none⟩ = some (.int .i64 t) ∧ W8.cell? ⟨b, 2, none⟩ = some (.int .i64 s) ∧ W8.cell? ⟨b, 3, none⟩ = some (.slice a3 m3 c3) ∧ W8.cell? ⟨d, 0, none⟩ = some (.int .i64 k) ∧ W8.cell? ⟨d, 1, none⟩ = some (.int .i64 h1) ∧ W8.cell? ⟨d, 2, none⟩ = some (.int .i64 h2) ∧ W8.cell? ⟨d, 3, none⟩ = some (.int .i64 h3) := ⟨qB.at rfl, qB.at rfl, qB.at rfl, qB.at rfl, qD.at rfl, qD.at rfl, qD.at rfl, qD.at rfl⟩
  refine hK.out _ _ s9 (fun hHeld => ?_)
  clear hK K
  try simp only [Act.put, List.setIfInBounds_toArray, List.set_cons_zero, List.set_cons_succ]
  refine wpAnyH_take (i := 7) (v := ?vv7) (List.getElem?_toArray.trans rfl) (by kernel_rfl) (by kernel_rfl) (by kernel_rfl) (fun _ _ _ h => h) (Or.inl ⟨by rfl, ?yv7⟩) (by assumption) ?rv7
  case yv7 => (intro w hSw; (try dsimp only at hSw); go_simp; try with_reducible rfl)
  try simp only [Act.put, List.setIfInBounds_toArray, List.set_cons_zero, List.set_cons_succ]
  refine wpAnyH_done (by kernel_rfl) ?_ _
  have g0 : W8.cell? ⟨w.heap.size, 0, none⟩ = some (.slice a0 m0 c0) := q2.at rfl
  have g1 : W8.cell? ⟨w.heap.size, 1, none⟩ = some (.int .i64 t) := q2.at rfl
  have g2 : W8.cell? ⟨w.heap.size, 2, none⟩ = some (.int .i64 s) := q2.at rfl
  have g3 : W8.cell? ⟨w.heap.size, 3, none⟩ = some (.slice a3 m3 c3) := q2.at rfl
  have y0 : W8.cell? ⟨w.heap.size + 1, 0, none⟩ = some (.int .i64 k) := q3.at rfl
  have y1 : W8.cell? ⟨w.heap.size + 1, 1, none⟩ = some (.int .i64 h1) := q3.at rfl
  have y2 : W8.cell? ⟨w.heap.size + 1, 2, none⟩ = some (.int .i64 h2) := q3.at rfl
  have y3 : W8.cell? ⟨w.heap.size + 1, 3, none⟩ = some (.int .i64 h3) := q3.at rfl
  clear s9
  go_wp2
  refine bodyPost_ret (v := .tuple #[.agg #[.slice a0 m0 c0, .int .i64 t, .int .i64 s, .slice a3 m3 c3], .agg #[.int .i64 k, .int .i64 h1, .int .i64 h2, .int .i64 h3], .int .i64 z]) (by simp [results, Try.results9, go_sem, g0, g1, g2, g3, y0, y1, y2, y3]) rfl ?_
  have hm0 := HM0.out
  have hm3 := HM3.out
  subst hm0 hm3
  exact ⟨⟨l, t, s, zs⟩, a0, c0, a3, c3, ⟨k, ⟨h1, h2, h3⟩⟩, z, rfl, hL0.more (Nat.zero_le _) (by omega), hL3.more (Nat.zero_le _) (by omega), hl8, hbr, hl9, ht, hs, hWA, hWk, hz', hB⟩

/-- A drawn resource. -/
def IsResD (w : World) (e : Ending) (w' : World) : Prop :=
  ∃ (k h q r : Int) (a : Option Addr) (n c : Nat) (zs : List Int), I64 k ∧ I64 h ∧ I64 q ∧ I64 r ∧ e = .returned (Value.agg #[Value.int IntKind.i64 (k), Value.slice (a) (n) (c), Value.int IntKind.i64 (h), Value.int IntKind.i64 (q), Value.int IntKind.i64 (r)]) ∧ Row .i64 (w.heap.size + 1) w'.heap.size w' a n zs ∧ n ≤ c ∧ c ≤ maxLen ∧ n ≤ 7 ∧ Below w.heap.size w w'
set_option maxHeartbeats 1000000 in
set_option maxRecDepth 100000 in
theorem draw_res (B : Nat) (a : Option Addr) (n c : Nat) (w : World) (hb : Bytes B w a n) (hB : B ≤ w.heap.size) :
    Calls Try.prog 44 #[.slice a n c] w (IsResD w) := by
  have qR := Quint.new 39 (.int .i64 0) (.slice none 0 0) (.int .i64 0) (.int .i64 0) (.int .i64 0) w
  have hb0 : Below w.heap.size w (w.alloc (.cells #[.int .i64 0, .slice none 0 0, .int .i64 0, .int .i64 0, .int .i64 0] 39)) := (Below.refl _ _).alloc (Nat.le_refl _) _
  go_enter Try.func44, Try.ntmps44
  go_wp2_with fail
  go_at_call 31
  refine (new_any B a n c _ (hb.below hb0) (by simp; omega)).mono ?_
  rintro e w1 ⟨rfl, hc1, hb1⟩
  have qR1 := qR.below hb1
  have hB1 := hb0.trans (hb1.mono hb0.size)
  have hs1 := hc1.lt
  rw [size_alloc] at hc1 hs1
  clear hb hb0 hb1 qR
  go_wp2_with fail
  go_at_call 79
  refine (any5 B _ _ hc1).mono ?_
  rintro e w2 ⟨k, h, q, r, a', n', c', zs, hk, hh, hq, hr, rfl, hv, hn, hg, hc2, ho2⟩
  have qR2 := quint_only qR1 ho2 (by omega)
  have hB2 := hB1.trans (ho2.below (Nat.le_succ _) hB1.size)
  obtain ⟨a0, a1, a2, a3, a4⟩ := qR2.cells
  obtain ⟨f0, f1, f2, f3, f4⟩ := qR2.frozen
  clear qR1 hc1 hc2 ho2
  go_wp2_with fail
  have hvF := own5 (R := w.heap.size) hv (by omega) (.int .i64 k) (.slice a' n' c') (.int .i64 h) (.int .i64 q) (.int .i64 r)
  obtain ⟨g0, g1, g2, g3, g4⟩ := (((((qR2.set0 (.int .i64 k)).set1 (.slice a' n' c')).set2 (.int .i64 h)).set3 (.int .i64 q)).set4 (.int .i64 r)).cells
  refine bodyPost_ret (v := (Value.agg #[Value.int IntKind.i64 (k), Value.slice (a') (n') (c'), Value.int IntKind.i64 (h), Value.int IntKind.i64 (q), Value.int IntKind.i64 (r)])) (by simp [results, Try.results44, go_sem, g0, g1, g2, g3, g4]) rfl ?_
  obtain ⟨a9, c9, e9, m1, m2, _⟩ := OwnI.own hvF hg.wf
  injection e9 with e91 _ e93
  subst e91 e93
  refine ⟨k, h, q, r, a', n', c', zs, hk, hh, hq, hr, rfl, (own_row hvF hg).more (by omega) (Nat.le_refl _), m1, m2, hn, ?_⟩
  iterate 5 (refine Below.setCell ?_ (by dsimp only; omega) _)
  exact hB2
set_option maxHeartbeats 1000000 in
set_option maxRecDepth 100000 in
theorem draw_value (B : Nat) (a : Option Addr) (n c : Nat) (w : World) (hb : Bytes B w a n) (hB : B ≤ w.heap.size) :
    Calls Try.prog 14 #[.slice a n c] w (IsResD w) := by
  have qR := Quint.new 39 (.int .i64 0) (.slice none 0 0) (.int .i64 0) (.int .i64 0) (.int .i64 0) w
  have hb0 : Below w.heap.size w (w.alloc (.cells #[.int .i64 0, .slice none 0 0, .int .i64 0, .int .i64 0, .int .i64 0] 39)) := (Below.refl _ _).alloc (Nat.le_refl _) _
  go_enter Try.func14, Try.ntmps14
  go_wp2_with fail
  go_at_call 44
  refine (draw_res B a n c _ (hb.below hb0) (by simp; omega)).mono ?_
  rintro e w2 ⟨k, h, q, r, a', n', c', zs, hk, hh, hq, hr, rfl, hrow, m1, m2, hn, hb1⟩
  have qR2 := qR.below hb1
  have hB1 := hb0.trans (hb1.mono hb0.size)
  rw [size_alloc] at hrow
  obtain ⟨a0, a1, a2, a3, a4⟩ := qR2.cells
  obtain ⟨f0, f1, f2, f3, f4⟩ := qR2.frozen
  obtain ⟨g0, g1, g2, g3, g4⟩ := (((((qR2.set0 (.int .i64 k)).set1 (.slice a' n' c')).set2 (.int .i64 h)).set3 (.int .i64 q)).set4 (.int .i64 r)).cells
  clear hb hb0 hb1
  go_wp2
  refine bodyPost_ret (v := (Value.agg #[Value.int IntKind.i64 (k), Value.slice (a') (n') (c'), Value.int IntKind.i64 (h), Value.int IntKind.i64 (q), Value.int IntKind.i64 (r)])) (by simp [results, Try.results14, go_sem, g0, g1, g2, g3, g4]) rfl ?_
  refine ⟨k, h, q, r, a', n', c', zs, hk, hh, hq, hr, rfl, ?_, m1, m2, hn, ?_⟩
  · refine (hrow.keep fun i _ h1 _ => ?_).more (by omega) (by simp only [gsize_set]; exact Nat.le_refl _)
    iterate 5 (rw [heap_setCell_other _ _ i _ (by dsimp only; omega)])
  · iterate 5 (refine Below.setCell ?_ (by dsimp only; omega) _)
    exact hB1
end Go.Proofs.Ytagnhfalmefbhaa.Draw
