/-
  The draw of a step of a script.
  Conditions: the bytes lie below the cursor's block.
-/
import Derived.Test.YtbohkohccnieiaaDrawOnce
import Derived.Test.YtbohkohccnieiaaDrawAny4
import Derived.Test.YtbohkohccnieiaaScriptMath
import Derived.Deep.CutBlock
import Derived.Deep.DeepCutAuto
namespace Go.Proofs.Ytbohkohccnieiaa.Draw
open Go Go.RowKit Go.Proofs.Ytbohkohccnieiaa.Mem Go.Proofs.Ytbohkohccnieiaa.Gen Go.Proofs.Ytbohkohccnieiaa.Scripts

theorem blk_only {T b p : Nat} {xs : List Value} {w w' : World} (h : Blk T b xs w) (ho : Only p w w') (hne : b ≠ p) : Blk T b xs w' := ho.heap h hne
def WfO (P : TOp) : Prop := (Lit.int .i64 P.f0).wf = true ∧ (Lit.int .i64 P.f1).wf = true ∧ (Lit.int .i64 P.f2).wf = true ∧ (Lit.int .i64 P.f3).wf = true
/-- A drawn step. -/
def IsOp (e : Ending) : Prop := ∃ P : TOp, e = .returned (.agg #[.int .i64 P.f0, .int .i64 P.f1, .int .i64 P.f2, .int .i64 P.f3]) ∧ WfO P
theorem wf_nat {x : Nat} (h : x < 100) : (Lit.int .i64 (x : Int)).wf = true := WalkArith.wf_i64 (by omega)
theorem wf_nat1 {x : Nat} (h : x < 100) : (Lit.int .i64 (1 + (x : Int))).wf = true := WalkArith.wf_i64 (by omega)

set_option maxHeartbeats 4000000 in
set_option maxRecDepth 100000 in
theorem op10 (B p : Nat) (w : World) (hc : Cur 89 B p w) :
    Calls Try.prog 91 #[.pointer (some ⟨p, 0, none⟩)] w fun e w' => IsOp e ∧ Cur 89 B p w' ∧ Only p w w' := by
  have hp := hc.lt
  have hBp := hc.1
  obtain ⟨W, hW⟩ : ∃ W, w.alloc (.cells #[.int .i64 0, .int .i64 0, .int .i64 0, .int .i64 0] 71) = W := ⟨_, rfl⟩
  have q0 : Blk 71 w.heap.size [.int .i64 0, .int .i64 0, .int .i64 0, .int .i64 0] W := by rw [← hW]; exact Blk.new _ [_, _, _, _] w
  have hc0 : Cur 89 B p W := by rw [← hW]; exact hc.below ((Below.refl _ _).alloc (Nat.le_refl _) _)
  have hO : Only p w W := by rw [← hW]; exact (Only.refl p w).alloc _
  have hs0 : w.heap.size < W.heap.size := q0.lt
  have HW := Lib.hid hW
  clear hc hW
  go_enter Try.func91, Try.ntmps91
  go_upto_region 1 with fail
  rw [HW.out]
  go_wp2_with fail
  go_at_call 71
  refine (below_any B p _ _ hc0 (by omega) (by omega)).mono ?_
  rintro e w1 ⟨⟨x, hx, rfl⟩, hc1, ho1⟩
  have hx9 : x < 9 := hx
  have q0 := blk_only q0 ho1 (by omega)
  have hO := hO.trans ho1
  have hs1 := ho1.size
  clear ho1 hx hc0
  go_wp2_with fail
  go_at_call 71
  refine (below_any B p _ _ hc1 (by omega) (by omega)).mono ?_
  rintro e w2 ⟨⟨y, hy, rfl⟩, hc2, ho2⟩
  have hy3 : y < 3 := hy
  have q0 := blk_only q0 ho2 (by omega)
  have hO := hO.trans ho2
  have hs2 := ho2.size
  clear ho2 hy hc1
  obtain ⟨W3, hW3⟩ : ∃ W3, w2.alloc (.cells #[.int .i64 (1 + (x : Int)), .int .i64 (y : Int), .int .i64 0, .int .i64 0] 71) = W3 := ⟨_, rfl⟩
  have qX : Blk 71 w2.heap.size [.int .i64 (1 + (x : Int)), .int .i64 (y : Int), .int .i64 0, .int .i64 0] W3 := by rw [← hW3]; exact Blk.new _ [_, _, _, _] w2
  have hA : Below w2.heap.size w2 W3 := by rw [← hW3]; exact (Below.refl _ _).alloc (Nat.le_refl _) _
  have q0 := q0.below hA
  have hc3 := hc2.below hA
  have hO : Only p w W3 := hO.trans (Only.of_below hA)
  obtain ⟨bX, hbX⟩ : ∃ b, w2.heap.size = b := ⟨_, rfl⟩
  rw [hbX] at qX hs2
  have hpX : p < bX := by omega
  have h0X : w.heap.size < bX := by omega
  have hsX : bX < W3.heap.size := qX.lt
  have HW3 := Lib.hid hW3
  have HBX := Lib.hid hbX
  clear hA hc2 hW3 hbX hs2
  go_upto_region 2 with fail
  rw [HW3.out, HBX.out]
  go_wp2_with fail
  go_at_call 93
  refine (once_any B p _ _ hc3 (by omega) (by omega)).mono ?_
  rintro e w4 ⟨⟨b, rfl⟩, hc4, ho4⟩
  have q0 := blk_only q0 ho4 (by omega)
  have qX := blk_only qX ho4 (by omega)
  have hO := hO.trans ho4
  have hs4 := ho4.size
  clear hc3 ho4
  go_upto_if 11 with fail
  go_cut [3] (fun s wx => s = .pointer (some ⟨bX, 0, none⟩) ∧ ∃ k : Int, (1 ≤ k ∧ k ≤ 9) ∧ Blk 71 bX [.int .i64 k, .int .i64 (y : Int), .int .i64 0, .int .i64 0] wx ∧ Blk 71 w.heap.size [.int .i64 0, .int .i64 0, .int .i64 0, .int .i64 0] wx ∧ Cur 89 B p wx ∧ Only p w wx)
  case first =>
    cases b
    · go_wp2_with fail
      go_meet
      case rel => exact ⟨rfl, _, ⟨by omega, by omega⟩, qX, q0, hc4, hO⟩
    · have z0 := qX.at (x := 0) rfl
      have d0 := qX.free 0
      go_wp2_with fail
      go_meet
      case rel => exact ⟨rfl, 1, ⟨by omega, by omega⟩, qX.set 0 _, q0.other _ (by simp; omega), hc4.only_new (by simp; omega) (by simp; omega) _, hO.setNew (by simp; omega) _⟩
  case rest =>
  obtain ⟨rfl, k, hk, qX, q0, hc5, hO⟩ := hcut
  clear hc4
  rcases kinds k hk.1 hk.2
  · have z0 := qX.at (x := 0) rfl
    go_wp2_with fail
    go_at_call 71
    refine (below_any B p _ _ hc5 (by omega) (by omega)).mono ?_
    rintro e u0 ⟨⟨n0, hn0, rfl⟩, hd0, ho0⟩
    have hm0 : n0 < 3 := hn0
    have q0 := blk_only q0 ho0 (by omega)
    have qX := blk_only qX ho0 (by omega)
    have hO := hO.trans ho0
    have y0 := qX.at (x := 2) rfl
    have d0 := qX.free 2
    have qX := qX.set 2 (.int .i64 (1 + (n0 : Int)))
    simp only [List.set_cons_zero, List.set_cons_succ] at qX
    have q0 := q0.other (a := ⟨bX, 2, none⟩) (.int .i64 (1 + (n0 : Int))) (by simp; omega)
    have hO := hO.setNew (a := ⟨bX, 2, none⟩) (by simp; omega) (.int .i64 (1 + (n0 : Int)))
    have he0 := hd0.only_new (a := ⟨bX, 2, none⟩) (by simp; omega) (by simp; omega) (.int .i64 (1 + (n0 : Int)))
    have HE0 := he0
    go_wp2_with fail
    go_at_call 71
    refine (below_any B p _ _ he0 (by omega) (by omega)).mono ?_
    rintro e u1 ⟨⟨n1, hn1, rfl⟩, hd1, ho1⟩
    have hm1 : n1 < 3 := hn1
    have q0 := blk_only q0 ho1 (by omega)
    have qX := blk_only qX ho1 (by omega)
    have hO := hO.trans ho1
    have y1 := qX.at (x := 3) rfl
    have d1 := qX.free 3
    have qX := qX.set 3 (.int .i64 (n1 : Int))
    simp only [List.set_cons_zero, List.set_cons_succ] at qX
    have q0 := q0.other (a := ⟨bX, 3, none⟩) (.int .i64 (n1 : Int)) (by simp; omega)
    have hO := hO.setNew (a := ⟨bX, 3, none⟩) (by simp; omega) (.int .i64 (n1 : Int))
    have he1 := hd1.only_new (a := ⟨bX, 3, none⟩) (by simp; omega) (by simp; omega) (.int .i64 (n1 : Int))
    have HE1 := he1
    have x0 := qX.at (x := 0) rfl
    have f0 := q0.at (x := 0) rfl
    have r0 := q0.free 0
    have x1 := qX.at (x := 1) rfl
    have f1 := q0.at (x := 1) rfl
    have r1 := q0.free 1
    have x2 := qX.at (x := 2) rfl
    have f2 := q0.at (x := 2) rfl
    have r2 := q0.free 2
    have x3 := qX.at (x := 3) rfl
    have f3 := q0.at (x := 3) rfl
    have r3 := q0.free 3
    have qF := (((q0.set 0 (.int .i64 1)).set 1 (.int .i64 (y : Int))).set 2 (.int .i64 (1 + (n0 : Int)))).set 3 (.int .i64 (n1 : Int))
    simp only [List.set_cons_zero, List.set_cons_succ] at qF
    have g0 := qF.at (x := 0) rfl
    have g1 := qF.at (x := 1) rfl
    have g2 := qF.at (x := 2) rfl
    have g3 := qF.at (x := 3) rfl
    go_wp2
    refine bodyPost_ret (v := .agg #[.int .i64 1, .int .i64 (y : Int), .int .i64 (1 + (n0 : Int)), .int .i64 (n1 : Int)]) (by simp [results, Try.results91, go_sem, g0, g1, g2, g3]) rfl ?_
    exact ⟨⟨⟨1, (y : Int), (1 + (n0 : Int)), (n1 : Int)⟩, rfl, by show (Lit.int .i64 1).wf = true; decide, wf_nat (by omega), wf_nat1 (by omega), wf_nat (by omega)⟩, (((he1.only_new (a := ⟨w.heap.size, 0, none⟩) (by simp; omega) (by simp; omega) _).only_new (a := ⟨w.heap.size, 1, none⟩) (by simp; omega) (by simp; omega) _).only_new (a := ⟨w.heap.size, 2, none⟩) (by simp; omega) (by simp; omega) _).only_new (a := ⟨w.heap.size, 3, none⟩) (by simp; omega) (by simp; omega) _, (((hO.setNew (a := ⟨w.heap.size, 0, none⟩) (Nat.le_refl _) _).setNew (a := ⟨w.heap.size, 1, none⟩) (Nat.le_refl _) _).setNew (a := ⟨w.heap.size, 2, none⟩) (Nat.le_refl _) _).setNew (a := ⟨w.heap.size, 3, none⟩) (Nat.le_refl _) _⟩
  · have z0 := qX.at (x := 0) rfl
    have x0 := qX.at (x := 0) rfl
    have f0 := q0.at (x := 0) rfl
    have r0 := q0.free 0
    have x1 := qX.at (x := 1) rfl
    have f1 := q0.at (x := 1) rfl
    have r1 := q0.free 1
    have x2 := qX.at (x := 2) rfl
    have f2 := q0.at (x := 2) rfl
    have r2 := q0.free 2
    have x3 := qX.at (x := 3) rfl
    have f3 := q0.at (x := 3) rfl
    have r3 := q0.free 3
    have qF := (((q0.set 0 (.int .i64 2)).set 1 (.int .i64 (y : Int))).set 2 (.int .i64 0)).set 3 (.int .i64 0)
    simp only [List.set_cons_zero, List.set_cons_succ] at qF
    have g0 := qF.at (x := 0) rfl
    have g1 := qF.at (x := 1) rfl
    have g2 := qF.at (x := 2) rfl
    have g3 := qF.at (x := 3) rfl
    go_wp2
    refine bodyPost_ret (v := .agg #[.int .i64 2, .int .i64 (y : Int), .int .i64 0, .int .i64 0]) (by simp [results, Try.results91, go_sem, g0, g1, g2, g3]) rfl ?_
    exact ⟨⟨⟨2, (y : Int), 0, 0⟩, rfl, by show (Lit.int .i64 2).wf = true; decide, wf_nat (by omega), by show (Lit.int .i64 0).wf = true; decide, by show (Lit.int .i64 0).wf = true; decide⟩, (((hc5.only_new (a := ⟨w.heap.size, 0, none⟩) (by simp; omega) (by simp; omega) _).only_new (a := ⟨w.heap.size, 1, none⟩) (by simp; omega) (by simp; omega) _).only_new (a := ⟨w.heap.size, 2, none⟩) (by simp; omega) (by simp; omega) _).only_new (a := ⟨w.heap.size, 3, none⟩) (by simp; omega) (by simp; omega) _, (((hO.setNew (a := ⟨w.heap.size, 0, none⟩) (Nat.le_refl _) _).setNew (a := ⟨w.heap.size, 1, none⟩) (Nat.le_refl _) _).setNew (a := ⟨w.heap.size, 2, none⟩) (Nat.le_refl _) _).setNew (a := ⟨w.heap.size, 3, none⟩) (Nat.le_refl _) _⟩
  · have z0 := qX.at (x := 0) rfl
    have x0 := qX.at (x := 0) rfl
    have f0 := q0.at (x := 0) rfl
    have r0 := q0.free 0
    have x1 := qX.at (x := 1) rfl
    have f1 := q0.at (x := 1) rfl
    have r1 := q0.free 1
    have x2 := qX.at (x := 2) rfl
    have f2 := q0.at (x := 2) rfl
    have r2 := q0.free 2
    have x3 := qX.at (x := 3) rfl
    have f3 := q0.at (x := 3) rfl
    have r3 := q0.free 3
    have qF := (((q0.set 0 (.int .i64 3)).set 1 (.int .i64 (y : Int))).set 2 (.int .i64 0)).set 3 (.int .i64 0)
    simp only [List.set_cons_zero, List.set_cons_succ] at qF
    have g0 := qF.at (x := 0) rfl
    have g1 := qF.at (x := 1) rfl
    have g2 := qF.at (x := 2) rfl
    have g3 := qF.at (x := 3) rfl
    go_wp2
    refine bodyPost_ret (v := .agg #[.int .i64 3, .int .i64 (y : Int), .int .i64 0, .int .i64 0]) (by simp [results, Try.results91, go_sem, g0, g1, g2, g3]) rfl ?_
    exact ⟨⟨⟨3, (y : Int), 0, 0⟩, rfl, by show (Lit.int .i64 3).wf = true; decide, wf_nat (by omega), by show (Lit.int .i64 0).wf = true; decide, by show (Lit.int .i64 0).wf = true; decide⟩, (((hc5.only_new (a := ⟨w.heap.size, 0, none⟩) (by simp; omega) (by simp; omega) _).only_new (a := ⟨w.heap.size, 1, none⟩) (by simp; omega) (by simp; omega) _).only_new (a := ⟨w.heap.size, 2, none⟩) (by simp; omega) (by simp; omega) _).only_new (a := ⟨w.heap.size, 3, none⟩) (by simp; omega) (by simp; omega) _, (((hO.setNew (a := ⟨w.heap.size, 0, none⟩) (Nat.le_refl _) _).setNew (a := ⟨w.heap.size, 1, none⟩) (Nat.le_refl _) _).setNew (a := ⟨w.heap.size, 2, none⟩) (Nat.le_refl _) _).setNew (a := ⟨w.heap.size, 3, none⟩) (Nat.le_refl _) _⟩
  · have z0 := qX.at (x := 0) rfl
    have x0 := qX.at (x := 0) rfl
    have f0 := q0.at (x := 0) rfl
    have r0 := q0.free 0
    have x1 := qX.at (x := 1) rfl
    have f1 := q0.at (x := 1) rfl
    have r1 := q0.free 1
    have x2 := qX.at (x := 2) rfl
    have f2 := q0.at (x := 2) rfl
    have r2 := q0.free 2
    have x3 := qX.at (x := 3) rfl
    have f3 := q0.at (x := 3) rfl
    have r3 := q0.free 3
    have qF := (((q0.set 0 (.int .i64 4)).set 1 (.int .i64 (y : Int))).set 2 (.int .i64 0)).set 3 (.int .i64 0)
    simp only [List.set_cons_zero, List.set_cons_succ] at qF
    have g0 := qF.at (x := 0) rfl
    have g1 := qF.at (x := 1) rfl
    have g2 := qF.at (x := 2) rfl
    have g3 := qF.at (x := 3) rfl
    go_wp2
    refine bodyPost_ret (v := .agg #[.int .i64 4, .int .i64 (y : Int), .int .i64 0, .int .i64 0]) (by simp [results, Try.results91, go_sem, g0, g1, g2, g3]) rfl ?_
    exact ⟨⟨⟨4, (y : Int), 0, 0⟩, rfl, by show (Lit.int .i64 4).wf = true; decide, wf_nat (by omega), by show (Lit.int .i64 0).wf = true; decide, by show (Lit.int .i64 0).wf = true; decide⟩, (((hc5.only_new (a := ⟨w.heap.size, 0, none⟩) (by simp; omega) (by simp; omega) _).only_new (a := ⟨w.heap.size, 1, none⟩) (by simp; omega) (by simp; omega) _).only_new (a := ⟨w.heap.size, 2, none⟩) (by simp; omega) (by simp; omega) _).only_new (a := ⟨w.heap.size, 3, none⟩) (by simp; omega) (by simp; omega) _, (((hO.setNew (a := ⟨w.heap.size, 0, none⟩) (Nat.le_refl _) _).setNew (a := ⟨w.heap.size, 1, none⟩) (Nat.le_refl _) _).setNew (a := ⟨w.heap.size, 2, none⟩) (Nat.le_refl _) _).setNew (a := ⟨w.heap.size, 3, none⟩) (Nat.le_refl _) _⟩
  · have z0 := qX.at (x := 0) rfl
    go_wp2_with fail
    go_at_call 71
    refine (below_any B p _ _ hc5 (by omega) (by omega)).mono ?_
    rintro e u0 ⟨⟨n0, hn0, rfl⟩, hd0, ho0⟩
    have hm0 : n0 < 4 := hn0
    have q0 := blk_only q0 ho0 (by omega)
    have qX := blk_only qX ho0 (by omega)
    have hO := hO.trans ho0
    have y0 := qX.at (x := 2) rfl
    have d0 := qX.free 2
    have qX := qX.set 2 (.int .i64 (n0 : Int))
    simp only [List.set_cons_zero, List.set_cons_succ] at qX
    have q0 := q0.other (a := ⟨bX, 2, none⟩) (.int .i64 (n0 : Int)) (by simp; omega)
    have hO := hO.setNew (a := ⟨bX, 2, none⟩) (by simp; omega) (.int .i64 (n0 : Int))
    have he0 := hd0.only_new (a := ⟨bX, 2, none⟩) (by simp; omega) (by simp; omega) (.int .i64 (n0 : Int))
    have HE0 := he0
    go_wp2_with fail
    go_at_call 71
    refine (below_any B p _ _ he0 (by omega) (by omega)).mono ?_
    rintro e u1 ⟨⟨n1, hn1, rfl⟩, hd1, ho1⟩
    have hm1 : n1 < 4 := hn1
    have q0 := blk_only q0 ho1 (by omega)
    have qX := blk_only qX ho1 (by omega)
    have hO := hO.trans ho1
    have y1 := qX.at (x := 3) rfl
    have d1 := qX.free 3
    have qX := qX.set 3 (.int .i64 (n1 : Int))
    simp only [List.set_cons_zero, List.set_cons_succ] at qX
    have q0 := q0.other (a := ⟨bX, 3, none⟩) (.int .i64 (n1 : Int)) (by simp; omega)
    have hO := hO.setNew (a := ⟨bX, 3, none⟩) (by simp; omega) (.int .i64 (n1 : Int))
    have he1 := hd1.only_new (a := ⟨bX, 3, none⟩) (by simp; omega) (by simp; omega) (.int .i64 (n1 : Int))
    have HE1 := he1
    have x0 := qX.at (x := 0) rfl
    have f0 := q0.at (x := 0) rfl
    have r0 := q0.free 0
    have x1 := qX.at (x := 1) rfl
    have f1 := q0.at (x := 1) rfl
    have r1 := q0.free 1
    have x2 := qX.at (x := 2) rfl
    have f2 := q0.at (x := 2) rfl
    have r2 := q0.free 2
    have x3 := qX.at (x := 3) rfl
    have f3 := q0.at (x := 3) rfl
    have r3 := q0.free 3
    have qF := (((q0.set 0 (.int .i64 5)).set 1 (.int .i64 (y : Int))).set 2 (.int .i64 (n0 : Int))).set 3 (.int .i64 (n1 : Int))
    simp only [List.set_cons_zero, List.set_cons_succ] at qF
    have g0 := qF.at (x := 0) rfl
    have g1 := qF.at (x := 1) rfl
    have g2 := qF.at (x := 2) rfl
    have g3 := qF.at (x := 3) rfl
    go_wp2
    refine bodyPost_ret (v := .agg #[.int .i64 5, .int .i64 (y : Int), .int .i64 (n0 : Int), .int .i64 (n1 : Int)]) (by simp [results, Try.results91, go_sem, g0, g1, g2, g3]) rfl ?_
    exact ⟨⟨⟨5, (y : Int), (n0 : Int), (n1 : Int)⟩, rfl, by show (Lit.int .i64 5).wf = true; decide, wf_nat (by omega), wf_nat (by omega), wf_nat (by omega)⟩, (((he1.only_new (a := ⟨w.heap.size, 0, none⟩) (by simp; omega) (by simp; omega) _).only_new (a := ⟨w.heap.size, 1, none⟩) (by simp; omega) (by simp; omega) _).only_new (a := ⟨w.heap.size, 2, none⟩) (by simp; omega) (by simp; omega) _).only_new (a := ⟨w.heap.size, 3, none⟩) (by simp; omega) (by simp; omega) _, (((hO.setNew (a := ⟨w.heap.size, 0, none⟩) (Nat.le_refl _) _).setNew (a := ⟨w.heap.size, 1, none⟩) (Nat.le_refl _) _).setNew (a := ⟨w.heap.size, 2, none⟩) (Nat.le_refl _) _).setNew (a := ⟨w.heap.size, 3, none⟩) (Nat.le_refl _) _⟩
  · have z0 := qX.at (x := 0) rfl
    go_wp2_with fail
    go_at_call 71
    refine (below_any B p _ _ hc5 (by omega) (by omega)).mono ?_
    rintro e u0 ⟨⟨n0, hn0, rfl⟩, hd0, ho0⟩
    have hm0 : n0 < 4 := hn0
    have q0 := blk_only q0 ho0 (by omega)
    have qX := blk_only qX ho0 (by omega)
    have hO := hO.trans ho0
    have y0 := qX.at (x := 2) rfl
    have d0 := qX.free 2
    have qX := qX.set 2 (.int .i64 (n0 : Int))
    simp only [List.set_cons_zero, List.set_cons_succ] at qX
    have q0 := q0.other (a := ⟨bX, 2, none⟩) (.int .i64 (n0 : Int)) (by simp; omega)
    have hO := hO.setNew (a := ⟨bX, 2, none⟩) (by simp; omega) (.int .i64 (n0 : Int))
    have he0 := hd0.only_new (a := ⟨bX, 2, none⟩) (by simp; omega) (by simp; omega) (.int .i64 (n0 : Int))
    have HE0 := he0
    have x0 := qX.at (x := 0) rfl
    have f0 := q0.at (x := 0) rfl
    have r0 := q0.free 0
    have x1 := qX.at (x := 1) rfl
    have f1 := q0.at (x := 1) rfl
    have r1 := q0.free 1
    have x2 := qX.at (x := 2) rfl
    have f2 := q0.at (x := 2) rfl
    have r2 := q0.free 2
    have x3 := qX.at (x := 3) rfl
    have f3 := q0.at (x := 3) rfl
    have r3 := q0.free 3
    have qF := (((q0.set 0 (.int .i64 6)).set 1 (.int .i64 (y : Int))).set 2 (.int .i64 (n0 : Int))).set 3 (.int .i64 0)
    simp only [List.set_cons_zero, List.set_cons_succ] at qF
    have g0 := qF.at (x := 0) rfl
    have g1 := qF.at (x := 1) rfl
    have g2 := qF.at (x := 2) rfl
    have g3 := qF.at (x := 3) rfl
    go_wp2
    refine bodyPost_ret (v := .agg #[.int .i64 6, .int .i64 (y : Int), .int .i64 (n0 : Int), .int .i64 0]) (by simp [results, Try.results91, go_sem, g0, g1, g2, g3]) rfl ?_
    exact ⟨⟨⟨6, (y : Int), (n0 : Int), 0⟩, rfl, by show (Lit.int .i64 6).wf = true; decide, wf_nat (by omega), wf_nat (by omega), by show (Lit.int .i64 0).wf = true; decide⟩, (((he0.only_new (a := ⟨w.heap.size, 0, none⟩) (by simp; omega) (by simp; omega) _).only_new (a := ⟨w.heap.size, 1, none⟩) (by simp; omega) (by simp; omega) _).only_new (a := ⟨w.heap.size, 2, none⟩) (by simp; omega) (by simp; omega) _).only_new (a := ⟨w.heap.size, 3, none⟩) (by simp; omega) (by simp; omega) _, (((hO.setNew (a := ⟨w.heap.size, 0, none⟩) (Nat.le_refl _) _).setNew (a := ⟨w.heap.size, 1, none⟩) (Nat.le_refl _) _).setNew (a := ⟨w.heap.size, 2, none⟩) (Nat.le_refl _) _).setNew (a := ⟨w.heap.size, 3, none⟩) (Nat.le_refl _) _⟩
  · have z0 := qX.at (x := 0) rfl
    go_wp2_with fail
    go_at_call 71
    refine (below_any B p _ _ hc5 (by omega) (by omega)).mono ?_
    rintro e u0 ⟨⟨n0, hn0, rfl⟩, hd0, ho0⟩
    have hm0 : n0 < 3 := hn0
    have q0 := blk_only q0 ho0 (by omega)
    have qX := blk_only qX ho0 (by omega)
    have hO := hO.trans ho0
    have y0 := qX.at (x := 2) rfl
    have d0 := qX.free 2
    have qX := qX.set 2 (.int .i64 (1 + (n0 : Int)))
    simp only [List.set_cons_zero, List.set_cons_succ] at qX
    have q0 := q0.other (a := ⟨bX, 2, none⟩) (.int .i64 (1 + (n0 : Int))) (by simp; omega)
    have hO := hO.setNew (a := ⟨bX, 2, none⟩) (by simp; omega) (.int .i64 (1 + (n0 : Int)))
    have he0 := hd0.only_new (a := ⟨bX, 2, none⟩) (by simp; omega) (by simp; omega) (.int .i64 (1 + (n0 : Int)))
    have HE0 := he0
    have x0 := qX.at (x := 0) rfl
    have f0 := q0.at (x := 0) rfl
    have r0 := q0.free 0
    have x1 := qX.at (x := 1) rfl
    have f1 := q0.at (x := 1) rfl
    have r1 := q0.free 1
    have x2 := qX.at (x := 2) rfl
    have f2 := q0.at (x := 2) rfl
    have r2 := q0.free 2
    have x3 := qX.at (x := 3) rfl
    have f3 := q0.at (x := 3) rfl
    have r3 := q0.free 3
    have qF := (((q0.set 0 (.int .i64 7)).set 1 (.int .i64 (y : Int))).set 2 (.int .i64 (1 + (n0 : Int)))).set 3 (.int .i64 0)
    simp only [List.set_cons_zero, List.set_cons_succ] at qF
    have g0 := qF.at (x := 0) rfl
    have g1 := qF.at (x := 1) rfl
    have g2 := qF.at (x := 2) rfl
    have g3 := qF.at (x := 3) rfl
    go_wp2
    refine bodyPost_ret (v := .agg #[.int .i64 7, .int .i64 (y : Int), .int .i64 (1 + (n0 : Int)), .int .i64 0]) (by simp [results, Try.results91, go_sem, g0, g1, g2, g3]) rfl ?_
    exact ⟨⟨⟨7, (y : Int), (1 + (n0 : Int)), 0⟩, rfl, by show (Lit.int .i64 7).wf = true; decide, wf_nat (by omega), wf_nat1 (by omega), by show (Lit.int .i64 0).wf = true; decide⟩, (((he0.only_new (a := ⟨w.heap.size, 0, none⟩) (by simp; omega) (by simp; omega) _).only_new (a := ⟨w.heap.size, 1, none⟩) (by simp; omega) (by simp; omega) _).only_new (a := ⟨w.heap.size, 2, none⟩) (by simp; omega) (by simp; omega) _).only_new (a := ⟨w.heap.size, 3, none⟩) (by simp; omega) (by simp; omega) _, (((hO.setNew (a := ⟨w.heap.size, 0, none⟩) (Nat.le_refl _) _).setNew (a := ⟨w.heap.size, 1, none⟩) (Nat.le_refl _) _).setNew (a := ⟨w.heap.size, 2, none⟩) (Nat.le_refl _) _).setNew (a := ⟨w.heap.size, 3, none⟩) (Nat.le_refl _) _⟩
  · have z0 := qX.at (x := 0) rfl
    go_wp2_with fail
    go_at_call 71
    refine (below_any B p _ _ hc5 (by omega) (by omega)).mono ?_
    rintro e u0 ⟨⟨n0, hn0, rfl⟩, hd0, ho0⟩
    have hm0 : n0 < 3 := hn0
    have q0 := blk_only q0 ho0 (by omega)
    have qX := blk_only qX ho0 (by omega)
    have hO := hO.trans ho0
    have y0 := qX.at (x := 2) rfl
    have d0 := qX.free 2
    have qX := qX.set 2 (.int .i64 (n0 : Int))
    simp only [List.set_cons_zero, List.set_cons_succ] at qX
    have q0 := q0.other (a := ⟨bX, 2, none⟩) (.int .i64 (n0 : Int)) (by simp; omega)
    have hO := hO.setNew (a := ⟨bX, 2, none⟩) (by simp; omega) (.int .i64 (n0 : Int))
    have he0 := hd0.only_new (a := ⟨bX, 2, none⟩) (by simp; omega) (by simp; omega) (.int .i64 (n0 : Int))
    have HE0 := he0
    have x0 := qX.at (x := 0) rfl
    have f0 := q0.at (x := 0) rfl
    have r0 := q0.free 0
    have x1 := qX.at (x := 1) rfl
    have f1 := q0.at (x := 1) rfl
    have r1 := q0.free 1
    have x2 := qX.at (x := 2) rfl
    have f2 := q0.at (x := 2) rfl
    have r2 := q0.free 2
    have x3 := qX.at (x := 3) rfl
    have f3 := q0.at (x := 3) rfl
    have r3 := q0.free 3
    have qF := (((q0.set 0 (.int .i64 8)).set 1 (.int .i64 (y : Int))).set 2 (.int .i64 (n0 : Int))).set 3 (.int .i64 0)
    simp only [List.set_cons_zero, List.set_cons_succ] at qF
    have g0 := qF.at (x := 0) rfl
    have g1 := qF.at (x := 1) rfl
    have g2 := qF.at (x := 2) rfl
    have g3 := qF.at (x := 3) rfl
    go_wp2
    refine bodyPost_ret (v := .agg #[.int .i64 8, .int .i64 (y : Int), .int .i64 (n0 : Int), .int .i64 0]) (by simp [results, Try.results91, go_sem, g0, g1, g2, g3]) rfl ?_
    exact ⟨⟨⟨8, (y : Int), (n0 : Int), 0⟩, rfl, by show (Lit.int .i64 8).wf = true; decide, wf_nat (by omega), wf_nat (by omega), by show (Lit.int .i64 0).wf = true; decide⟩, (((he0.only_new (a := ⟨w.heap.size, 0, none⟩) (by simp; omega) (by simp; omega) _).only_new (a := ⟨w.heap.size, 1, none⟩) (by simp; omega) (by simp; omega) _).only_new (a := ⟨w.heap.size, 2, none⟩) (by simp; omega) (by simp; omega) _).only_new (a := ⟨w.heap.size, 3, none⟩) (by simp; omega) (by simp; omega) _, (((hO.setNew (a := ⟨w.heap.size, 0, none⟩) (Nat.le_refl _) _).setNew (a := ⟨w.heap.size, 1, none⟩) (Nat.le_refl _) _).setNew (a := ⟨w.heap.size, 2, none⟩) (Nat.le_refl _) _).setNew (a := ⟨w.heap.size, 3, none⟩) (Nat.le_refl _) _⟩
  · have z0 := qX.at (x := 0) rfl
    go_wp2_with fail
    go_at_call 71
    refine (below_any B p _ _ hc5 (by omega) (by omega)).mono ?_
    rintro e u0 ⟨⟨n0, hn0, rfl⟩, hd0, ho0⟩
    have hm0 : n0 < 3 := hn0
    have q0 := blk_only q0 ho0 (by omega)
    have qX := blk_only qX ho0 (by omega)
    have hO := hO.trans ho0
    have y0 := qX.at (x := 2) rfl
    have d0 := qX.free 2
    have qX := qX.set 2 (.int .i64 (n0 : Int))
    simp only [List.set_cons_zero, List.set_cons_succ] at qX
    have q0 := q0.other (a := ⟨bX, 2, none⟩) (.int .i64 (n0 : Int)) (by simp; omega)
    have hO := hO.setNew (a := ⟨bX, 2, none⟩) (by simp; omega) (.int .i64 (n0 : Int))
    have he0 := hd0.only_new (a := ⟨bX, 2, none⟩) (by simp; omega) (by simp; omega) (.int .i64 (n0 : Int))
    have HE0 := he0
    have x0 := qX.at (x := 0) rfl
    have f0 := q0.at (x := 0) rfl
    have r0 := q0.free 0
    have x1 := qX.at (x := 1) rfl
    have f1 := q0.at (x := 1) rfl
    have r1 := q0.free 1
    have x2 := qX.at (x := 2) rfl
    have f2 := q0.at (x := 2) rfl
    have r2 := q0.free 2
    have x3 := qX.at (x := 3) rfl
    have f3 := q0.at (x := 3) rfl
    have r3 := q0.free 3
    have qF := (((q0.set 0 (.int .i64 9)).set 1 (.int .i64 (y : Int))).set 2 (.int .i64 (n0 : Int))).set 3 (.int .i64 0)
    simp only [List.set_cons_zero, List.set_cons_succ] at qF
    have g0 := qF.at (x := 0) rfl
    have g1 := qF.at (x := 1) rfl
    have g2 := qF.at (x := 2) rfl
    have g3 := qF.at (x := 3) rfl
    go_wp2
    refine bodyPost_ret (v := .agg #[.int .i64 9, .int .i64 (y : Int), .int .i64 (n0 : Int), .int .i64 0]) (by simp [results, Try.results91, go_sem, g0, g1, g2, g3]) rfl ?_
    exact ⟨⟨⟨9, (y : Int), (n0 : Int), 0⟩, rfl, by show (Lit.int .i64 9).wf = true; decide, wf_nat (by omega), wf_nat (by omega), by show (Lit.int .i64 0).wf = true; decide⟩, (((he0.only_new (a := ⟨w.heap.size, 0, none⟩) (by simp; omega) (by simp; omega) _).only_new (a := ⟨w.heap.size, 1, none⟩) (by simp; omega) (by simp; omega) _).only_new (a := ⟨w.heap.size, 2, none⟩) (by simp; omega) (by simp; omega) _).only_new (a := ⟨w.heap.size, 3, none⟩) (by simp; omega) (by simp; omega) _, (((hO.setNew (a := ⟨w.heap.size, 0, none⟩) (Nat.le_refl _) _).setNew (a := ⟨w.heap.size, 1, none⟩) (Nat.le_refl _) _).setNew (a := ⟨w.heap.size, 2, none⟩) (Nat.le_refl _) _).setNew (a := ⟨w.heap.size, 3, none⟩) (Nat.le_refl _) _⟩
end Go.Proofs.Ytbohkohccnieiaa.Draw
