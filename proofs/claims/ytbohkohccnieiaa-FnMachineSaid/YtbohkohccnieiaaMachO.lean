/-
  The machine, the program: a state in arrays, or a panic; the step that comes next, or a panic.
  Conditions: the rows lie in memory, with 2^20 numbers at most.
-/
import Derived.Test.YtbohkohccnieiaaMachM
import Derived.Test.YtbohkohccnieiaaScriptI
import Derived.Recover
import Derived.Defers
import Derived.WalkLawsBesides
import Derived.Deep.CutBlock
import Derived.Deep.RegionLaw
namespace Go.Proofs.Ytbohkohccnieiaa.Mach
set_option linter.unusedVariables false
open Go Go.RowKit Go.Proofs.Ytbohkohccnieiaa.Mem Go.Proofs.Ytbohkohccnieiaa.Gen Go.Proofs.Ytbohkohccnieiaa.Scripts

/-- A panic that carries a text. -/
def gone (s : ByteArray) : PanicEntry := { v := .iface 9 (.string s), recovered := false }

set_option maxHeartbeats 1600000 in
set_option maxRecDepth 100000 in
theorem machine_yes (w : World) (p r0 r1 r2 r3 s0 s1 s2 n0 n1 n2 n3 : Int) (a1 : Option Addr) (c1 : Nat) (a2 : Option Addr) (c2 : Nat) (a3 : Option Addr) (c3 : Nat) (h : St w ⟨p, [r0, r1, r2, r3], [s0, s1, s2], [n0, n1, n2, n3]⟩ a1 c1 a2 c2 a3 c3) (hs : stateB ⟨p, [r0, r1, r2, r3], [s0, s1, s2], [n0, n1, n2, n3]⟩ = true) :
    Calls Try.prog 42 #[.agg #[.int .i64 p, .slice a1 4 c1, .slice a2 3 c2, .slice a3 4 c3]] w fun e w' => e = .returned (.agg #[.int .i64 p, .int .i64 r0, .int .i64 r1, .int .i64 r2, .int .i64 r3, .int .i64 s0, .int .i64 s1, .int .i64 s2, .int .i64 n0, .int .i64 n1, .int .i64 n2, .int .i64 n3]) ∧ Below w.heap.size w w' := by
  obtain ⟨W, hWW⟩ : ∃ Z, (w.alloc (.cells #[.int .i64 p, .slice a1 4 c1, .slice a2 3 c2, .slice a3 4 c3] 27)).alloc (.cells #[.int .i64 0, .int .i64 0, .int .i64 0, .int .i64 0, .int .i64 0, .int .i64 0, .int .i64 0, .int .i64 0, .int .i64 0, .int .i64 0, .int .i64 0, .int .i64 0] 67) = Z := ⟨_, rfl⟩
  have qB : Blk 27 w.heap.size [.int .i64 p, .slice a1 4 c1, .slice a2 3 c2, .slice a3 4 c3] W := by rw [← hWW]; exact (Blk.new _ [.int .i64 p, .slice a1 4 c1, .slice a2 3 c2, .slice a3 4 c3] w).alloc _
  have qR : Blk 67 (w.heap.size + 1) [.int .i64 0, .int .i64 0, .int .i64 0, .int .i64 0, .int .i64 0, .int .i64 0, .int .i64 0, .int .i64 0, .int .i64 0, .int .i64 0, .int .i64 0, .int .i64 0] W := by
    have := Blk.new 67 [.int .i64 0, .int .i64 0, .int .i64 0, .int .i64 0, .int .i64 0, .int .i64 0, .int .i64 0, .int .i64 0, .int .i64 0, .int .i64 0, .int .i64 0, .int .i64 0] (w.alloc (.cells #[.int .i64 p, .slice a1 4 c1, .slice a2 3 c2, .slice a3 4 c3] 27))
    rw [gsize_alloc] at this
    rw [← hWW]; exact this
  have hB : Below w.heap.size w W := by rw [← hWW]; exact ((Below.refl _ _).alloc (Nat.le_refl _) _).alloc (by rw [gsize_alloc]; omega) _
  have hz : w.heap.size + 2 ≤ W.heap.size := qR.lt
  have h1 := h.below hB
  have hK := state_impl ⟨p, [r0, r1, r2, r3], [s0, s1, s2], [n0, n1, n2, n3]⟩ W a1 c1 a2 c2 a3 c3 h1 (by simp) (by simp) (by simp)
  rw [hs] at hK
  obtain ⟨b1, o1, rfl, _, hb1, k1⟩ := (h.r1.row'.1).here (Nat.zero_lt_succ _)
  obtain ⟨b2, o2, rfl, _, hb2, k2⟩ := (h.r2.row'.1).here (Nat.zero_lt_succ _)
  obtain ⟨b3, o3, rfl, _, hb3, k3⟩ := (h.r3.row'.1).here (Nat.zero_lt_succ _)
  have x0 : W.cell? ⟨w.heap.size, 0, none⟩ = some (.int .i64 p) := qB.at rfl
  have x1 : W.cell? ⟨w.heap.size, 1, none⟩ = some (.slice (some ⟨b1, o1, none⟩) 4 c1) := qB.at rfl
  have x2 : W.cell? ⟨w.heap.size, 2, none⟩ = some (.slice (some ⟨b2, o2, none⟩) 3 c2) := qB.at rfl
  have x3 : W.cell? ⟨w.heap.size, 3, none⟩ = some (.slice (some ⟨b3, o3, none⟩) 4 c3) := qB.at rfl
  have HW := Lib.hid hWW
  clear hWW h h1 hs
  go_enter Try.func42, Try.ntmps42
  go_upto_region 1 with fail
  rw [HW.out]
  go_wp2_with fail
  go_at_call 15
  refine hK.mono ?_
  rintro e w1 ⟨rfl, hy⟩
  obtain ⟨V0, hV0⟩ : ∃ V, w1.drew = V := ⟨_, rfl⟩
  have hy : Below W.heap.size W V0 := by rw [← hV0]; exact gbelow_drewN hy 1
  have qB := qB.below hy
  have qR := qR.below hy
  have hB := hB.trans (hy.mono hB.size)
  have hz1 := hy.size
  clear x0 x1 x2 x3 hK
  have x0 : V0.cell? ⟨w.heap.size, 0, none⟩ = some (.int .i64 p) := qB.at rfl
  have x1 : V0.cell? ⟨w.heap.size, 1, none⟩ = some (.slice (some ⟨b1, o1, none⟩) 4 c1) := qB.at rfl
  have x2 : V0.cell? ⟨w.heap.size, 2, none⟩ = some (.slice (some ⟨b2, o2, none⟩) 3 c2) := qB.at rfl
  have x3 : V0.cell? ⟨w.heap.size, 3, none⟩ = some (.slice (some ⟨b3, o3, none⟩) 4 c3) := qB.at rfl
  have m10 : V0.cell? ⟨b1, o1, none⟩ = some (.int .i64 r0) := (Mem.cell_of_heap (hB.block b1 (by omega))).trans (k1 0 (show 0 < 4 by omega))
  have m11 : V0.cell? ⟨b1, o1 + 1, none⟩ = some (.int .i64 r1) := (Mem.cell_of_heap (hB.block b1 (by omega))).trans (k1 1 (show 1 < 4 by omega))
  have m12 : V0.cell? ⟨b1, o1 + 2, none⟩ = some (.int .i64 r2) := (Mem.cell_of_heap (hB.block b1 (by omega))).trans (k1 2 (show 2 < 4 by omega))
  have m13 : V0.cell? ⟨b1, o1 + 3, none⟩ = some (.int .i64 r3) := (Mem.cell_of_heap (hB.block b1 (by omega))).trans (k1 3 (show 3 < 4 by omega))
  have m20 : V0.cell? ⟨b2, o2, none⟩ = some (.int .i64 s0) := (Mem.cell_of_heap (hB.block b2 (by omega))).trans (k2 0 (show 0 < 3 by omega))
  have m21 : V0.cell? ⟨b2, o2 + 1, none⟩ = some (.int .i64 s1) := (Mem.cell_of_heap (hB.block b2 (by omega))).trans (k2 1 (show 1 < 3 by omega))
  have m22 : V0.cell? ⟨b2, o2 + 2, none⟩ = some (.int .i64 s2) := (Mem.cell_of_heap (hB.block b2 (by omega))).trans (k2 2 (show 2 < 3 by omega))
  have m30 : V0.cell? ⟨b3, o3, none⟩ = some (.int .i64 n0) := (Mem.cell_of_heap (hB.block b3 (by omega))).trans (k3 0 (show 0 < 4 by omega))
  have m31 : V0.cell? ⟨b3, o3 + 1, none⟩ = some (.int .i64 n1) := (Mem.cell_of_heap (hB.block b3 (by omega))).trans (k3 1 (show 1 < 4 by omega))
  have m32 : V0.cell? ⟨b3, o3 + 2, none⟩ = some (.int .i64 n2) := (Mem.cell_of_heap (hB.block b3 (by omega))).trans (k3 2 (show 2 < 4 by omega))
  have m33 : V0.cell? ⟨b3, o3 + 3, none⟩ = some (.int .i64 n3) := (Mem.cell_of_heap (hB.block b3 (by omega))).trans (k3 3 (show 3 < 4 by omega))
  have z0 : V0.cell? ⟨w.heap.size + 1, 0, none⟩ = some (.int .i64 0) := qR.at rfl
  have f0 := qR.free 0
  have z1 : V0.cell? ⟨w.heap.size + 1, 1, none⟩ = some (.int .i64 0) := qR.at rfl
  have f1 := qR.free 1
  have z2 : V0.cell? ⟨w.heap.size + 1, 2, none⟩ = some (.int .i64 0) := qR.at rfl
  have f2 := qR.free 2
  have z3 : V0.cell? ⟨w.heap.size + 1, 3, none⟩ = some (.int .i64 0) := qR.at rfl
  have f3 := qR.free 3
  have z4 : V0.cell? ⟨w.heap.size + 1, 4, none⟩ = some (.int .i64 0) := qR.at rfl
  have f4 := qR.free 4
  have z5 : V0.cell? ⟨w.heap.size + 1, 5, none⟩ = some (.int .i64 0) := qR.at rfl
  have f5 := qR.free 5
  have z6 : V0.cell? ⟨w.heap.size + 1, 6, none⟩ = some (.int .i64 0) := qR.at rfl
  have f6 := qR.free 6
  have z7 : V0.cell? ⟨w.heap.size + 1, 7, none⟩ = some (.int .i64 0) := qR.at rfl
  have f7 := qR.free 7
  have z8 : V0.cell? ⟨w.heap.size + 1, 8, none⟩ = some (.int .i64 0) := qR.at rfl
  have f8 := qR.free 8
  have z9 : V0.cell? ⟨w.heap.size + 1, 9, none⟩ = some (.int .i64 0) := qR.at rfl
  have f9 := qR.free 9
  have z10 : V0.cell? ⟨w.heap.size + 1, 10, none⟩ = some (.int .i64 0) := qR.at rfl
  have f10 := qR.free 10
  have z11 : V0.cell? ⟨w.heap.size + 1, 11, none⟩ = some (.int .i64 0) := qR.at rfl
  have f11 := qR.free 11
  clear k1 k2 k3
  have a1 : ∀ w : World, (Instr.arrayAt 64 (.slice (some ⟨b1, o1, none⟩) 4 c1)).run Try.prog w = .ok (.pointer (some ⟨b1, o1, none⟩)) w := fun w => by rfl
  have a2 : ∀ w : World, (Instr.arrayAt 65 (.slice (some ⟨b2, o2, none⟩) 3 c2)).run Try.prog w = .ok (.pointer (some ⟨b2, o2, none⟩)) w := fun w => by rfl
  have a3 : ∀ w : World, (Instr.arrayAt 64 (.slice (some ⟨b3, o3, none⟩) 4 c3)).run Try.prog w = .ok (.pointer (some ⟨b3, o3, none⟩)) w := fun w => by rfl
  go_wp2
  have hs9 : V0.cell? ⟨w.heap.size, 0, none⟩ = some (.int .i64 p) ∧ V0.cell? ⟨w.heap.size, 1, none⟩ = some (.slice (some ⟨b1, o1, none⟩) 4 c1) ∧ V0.cell? ⟨w.heap.size, 2, none⟩ = some (.slice (some ⟨b2, o2, none⟩) 3 c2) ∧ V0.cell? ⟨w.heap.size, 3, none⟩ = some (.slice (some ⟨b3, o3, none⟩) 4 c3) ∧ V0.cell? ⟨b1, o1, none⟩ = some (.int .i64 r0) ∧ V0.cell? ⟨b1, o1 + 1, none⟩ = some (.int .i64 r1) ∧ V0.cell? ⟨b1, o1 + 2, none⟩ = some (.int .i64 r2) ∧ V0.cell? ⟨b1, o1 + 3, none⟩ = some (.int .i64 r3) ∧ V0.cell? ⟨b2, o2, none⟩ = some (.int .i64 s0) ∧ V0.cell? ⟨b2, o2 + 1, none⟩ = some (.int .i64 s1) ∧ V0.cell? ⟨b2, o2 + 2, none⟩ = some (.int .i64 s2) ∧ V0.cell? ⟨b3, o3, none⟩ = some (.int .i64 n0) ∧ V0.cell? ⟨b3, o3 + 1, none⟩ = some (.int .i64 n1) ∧ V0.cell? ⟨b3, o3 + 2, none⟩ = some (.int .i64 n2) ∧ V0.cell? ⟨b3, o3 + 3, none⟩ = some (.int .i64 n3) := ⟨x0, x1, x2, x3, m10, m11, m12, m13, m20, m21, m22, m30, m31, m32, m33⟩
  refine wp_region_held_drew (S := (fun w' => w'.cell? ⟨w.heap.size, 0, none⟩ = some (.int .i64 p) ∧ w'.cell? ⟨w.heap.size, 1, none⟩ = some (.slice (some ⟨b1, o1, none⟩) 4 c1) ∧ w'.cell? ⟨w.heap.size, 2, none⟩ = some (.slice (some ⟨b2, o2, none⟩) 3 c2) ∧ w'.cell? ⟨w.heap.size, 3, none⟩ = some (.slice (some ⟨b3, o3, none⟩) 4 c3) ∧ w'.cell? ⟨b1, o1, none⟩ = some (.int .i64 r0) ∧ w'.cell? ⟨b1, o1 + 1, none⟩ = some (.int .i64 r1) ∧ w'.cell? ⟨b1, o1 + 2, none⟩ = some (.int .i64 r2) ∧ w'.cell? ⟨b1, o1 + 3, none⟩ = some (.int .i64 r3) ∧ w'.cell? ⟨b2, o2, none⟩ = some (.int .i64 s0) ∧ w'.cell? ⟨b2, o2 + 1, none⟩ = some (.int .i64 s1) ∧ w'.cell? ⟨b2, o2 + 2, none⟩ = some (.int .i64 s2) ∧ w'.cell? ⟨b3, o3, none⟩ = some (.int .i64 n0) ∧ w'.cell? ⟨b3, o3 + 1, none⟩ = some (.int .i64 n1) ∧ w'.cell? ⟨b3, o3 + 2, none⟩ = some (.int .i64 n2) ∧ w'.cell? ⟨b3, o3 + 3, none⟩ = some (.int .i64 n3))) (by kernel_rfl) (by rw [hV0]; exact hs9) (fun hHeld => ?_)
  rw [hV0]
  clear hV0
  refine wpAnyH_take (i := 0) (v := ?va0) (List.getElem?_toArray.trans rfl) (by kernel_rfl) (by kernel_rfl) (by kernel_rfl) (fun _ _ _ h => h) (Or.inl ⟨by rfl, ?ya0⟩) (by assumption) ?ra0
  case ya0 => (intro w hSw; (try dsimp only at hSw); go_simp; try with_reducible rfl)
  try simp only [Act.put, List.setIfInBounds_toArray, List.set_cons_zero, List.set_cons_succ]
  refine wpAnyH_take (i := 1) (v := ?va1) (List.getElem?_toArray.trans rfl) (by kernel_rfl) (by kernel_rfl) (by kernel_rfl) (fun _ _ _ h => h) (Or.inl ⟨by rfl, ?ya1⟩) (by assumption) ?ra1
  case ya1 => (intro w hSw; (try dsimp only at hSw); go_simp; try with_reducible rfl)
  try simp only [Act.put, List.setIfInBounds_toArray, List.set_cons_zero, List.set_cons_succ]
  refine wpAnyH_take (i := 2) (v := ?va2) (List.getElem?_toArray.trans rfl) (by kernel_rfl) (by kernel_rfl) (by kernel_rfl) (fun _ _ _ h => h) (Or.inl ⟨by rfl, ?ya2⟩) (by assumption) ?ra2
  case ya2 => (intro w hSw; (try dsimp only at hSw); go_simp; try with_reducible rfl)
  try simp only [Act.put, List.setIfInBounds_toArray, List.set_cons_zero, List.set_cons_succ]
  refine wpAnyH_take (i := 3) (v := ?va3) (List.getElem?_toArray.trans rfl) (by kernel_rfl) (by kernel_rfl) (by kernel_rfl) (fun _ _ _ h => h) (Or.inl ⟨by rfl, ?ya3⟩) (by assumption) ?ra3
  case ya3 => (intro w hSw; (try dsimp only at hSw); go_simp; try with_reducible rfl)
  try simp only [Act.put, List.setIfInBounds_toArray, List.set_cons_zero, List.set_cons_succ]
  refine wpAnyH_take (i := 4) (v := ?va4) (List.getElem?_toArray.trans rfl) (by kernel_rfl) (by kernel_rfl) (by kernel_rfl) (fun _ _ _ h => h) (Or.inl ⟨by rfl, ?ya4⟩) (by assumption) ?ra4
  case ya4 => (intro w hSw; (try dsimp only at hSw); go_simp; try with_reducible rfl)
  try simp only [Act.put, List.setIfInBounds_toArray, List.set_cons_zero, List.set_cons_succ]
  refine wpAnyH_take (i := 5) (v := ?va5) (List.getElem?_toArray.trans rfl) (by kernel_rfl) (by kernel_rfl) (by kernel_rfl) (fun _ _ _ h => h) (Or.inl ⟨by rfl, ?ya5⟩) (by assumption) ?ra5
  case ya5 => (intro w hSw; (try dsimp only at hSw); go_simp; try with_reducible rfl)
  try simp only [Act.put, List.setIfInBounds_toArray, List.set_cons_zero, List.set_cons_succ]
  refine wpAnyH_take (i := 6) (v := ?va6) (List.getElem?_toArray.trans rfl) (by kernel_rfl) (by kernel_rfl) (by kernel_rfl) (fun _ _ _ h => h) (Or.inl ⟨by rfl, ?ya6⟩) (by assumption) ?ra6
  case ya6 => (intro w hSw; (try dsimp only at hSw); go_simp; try with_reducible rfl)
  try simp only [Act.put, List.setIfInBounds_toArray, List.set_cons_zero, List.set_cons_succ]
  refine wpAnyH_take (i := 7) (v := ?va7) (List.getElem?_toArray.trans rfl) (by kernel_rfl) (by kernel_rfl) (by kernel_rfl) (fun _ _ _ h => h) (Or.inl ⟨by rfl, ?ya7⟩) (by assumption) ?ra7
  case ya7 => (intro w hSw; (try dsimp only at hSw); go_simp; try with_reducible rfl)
  try simp only [Act.put, List.setIfInBounds_toArray, List.set_cons_zero, List.set_cons_succ]
  refine wpAnyH_take (i := 8) (v := ?va8) (List.getElem?_toArray.trans rfl) (by kernel_rfl) (by kernel_rfl) (by kernel_rfl) (fun _ _ _ h => h) (Or.inl ⟨by rfl, ?ya8⟩) (by assumption) ?ra8
  case ya8 => (intro w hSw; (try dsimp only at hSw); go_simp; try with_reducible rfl)
  try simp only [Act.put, List.setIfInBounds_toArray, List.set_cons_zero, List.set_cons_succ]
  refine wpAnyH_take (i := 9) (v := ?va9) (List.getElem?_toArray.trans rfl) (by kernel_rfl) (by kernel_rfl) (by kernel_rfl) (fun _ _ _ h => h) (Or.inl ⟨by rfl, ?ya9⟩) (by assumption) ?ra9
  case ya9 => (intro w hSw; (try dsimp only at hSw); go_simp; try with_reducible rfl)
  try simp only [Act.put, List.setIfInBounds_toArray, List.set_cons_zero, List.set_cons_succ]
  refine wpAnyH_take (i := 10) (v := ?va10) (List.getElem?_toArray.trans rfl) (by kernel_rfl) (by kernel_rfl) (by kernel_rfl) (fun _ _ _ h => h) (Or.inl ⟨by rfl, ?ya10⟩) (by assumption) ?ra10
  case ya10 => (intro w hSw; (try dsimp only at hSw); go_simp; try with_reducible rfl)
  try simp only [Act.put, List.setIfInBounds_toArray, List.set_cons_zero, List.set_cons_succ]
  refine wpAnyH_take (i := 11) (v := ?va11) (List.getElem?_toArray.trans rfl) (by kernel_rfl) (by kernel_rfl) (by kernel_rfl) (fun _ _ _ h => h) (Or.inl ⟨by rfl, ?ya11⟩) (by assumption) ?ra11
  case ya11 => (intro w hSw; (try dsimp only at hSw); go_simp; try with_reducible rfl)
  try simp only [Act.put, List.setIfInBounds_toArray, List.set_cons_zero, List.set_cons_succ]
  refine wpAnyH_take (i := 12) (v := ?va12) (List.getElem?_toArray.trans rfl) (by kernel_rfl) (by kernel_rfl) (by kernel_rfl) (fun _ _ _ h => h) (Or.inl ⟨by rfl, ?ya12⟩) (by assumption) ?ra12
  case ya12 => (intro w hSw; (try dsimp only at hSw); go_simp; try with_reducible rfl)
  try simp only [Act.put, List.setIfInBounds_toArray, List.set_cons_zero, List.set_cons_succ]
  refine wpAnyH_take (i := 13) (v := ?va13) (List.getElem?_toArray.trans rfl) (by kernel_rfl) (by kernel_rfl) (by kernel_rfl) (fun _ _ _ h => h) (Or.inl ⟨by rfl, ?ya13⟩) (by assumption) ?ra13
  case ya13 => (intro w hSw; (try dsimp only at hSw); go_simp; try with_reducible rfl)
  try simp only [Act.put, List.setIfInBounds_toArray, List.set_cons_zero, List.set_cons_succ]
  refine wpAnyH_take (i := 14) (v := ?va14) (List.getElem?_toArray.trans rfl) (by kernel_rfl) (by kernel_rfl) (by kernel_rfl) (fun _ _ _ h => h) (Or.inl ⟨by rfl, ?ya14⟩) (by assumption) ?ra14
  case ya14 => (intro w hSw; (try dsimp only at hSw); go_simp; try with_reducible rfl)
  try simp only [Act.put, List.setIfInBounds_toArray, List.set_cons_zero, List.set_cons_succ]
  refine wpAnyH_ready (rs := [15]) (by kernel_rfl) (by simp) ?_
  refine AllReadyH.cons (List.getElem?_toArray.trans rfl) (fun K hK => ?_) AllReadyH.nil
  go_simp
  obtain ⟨VF, hVF, qF, _, hkp, hF⟩ := put12 (w := w) (b := w.heap.size + 1) (v0 := .int .i64 p) (v1 := .int .i64 r0) (v2 := .int .i64 r1) (v3 := .int .i64 r2) (v4 := .int .i64 r3) (v5 := .int .i64 s0) (v6 := .int .i64 s1) (v7 := .int .i64 s2) (v8 := .int .i64 n0) (v9 := .int .i64 n1) (v10 := .int .i64 n2) (v11 := .int .i64 n3) qR (Nat.le_succ _) hB
  rw [hVF]
  clear hVF
  have s9 : VF.cell? ⟨w.heap.size, 0, none⟩ = some (.int .i64 p) ∧ VF.cell? ⟨w.heap.size, 1, none⟩ = some (.slice (some ⟨b1, o1, none⟩) 4 c1) ∧ VF.cell? ⟨w.heap.size, 2, none⟩ = some (.slice (some ⟨b2, o2, none⟩) 3 c2) ∧ VF.cell? ⟨w.heap.size, 3, none⟩ = some (.slice (some ⟨b3, o3, none⟩) 4 c3) ∧ VF.cell? ⟨b1, o1, none⟩ = some (.int .i64 r0) ∧ VF.cell? ⟨b1, o1 + 1, none⟩ = some (.int .i64 r1) ∧ VF.cell? ⟨b1, o1 + 2, none⟩ = some (.int .i64 r2) ∧ VF.cell? ⟨b1, o1 + 3, none⟩ = some (.int .i64 r3) ∧ VF.cell? ⟨b2, o2, none⟩ = some (.int .i64 s0) ∧ VF.cell? ⟨b2, o2 + 1, none⟩ = some (.int .i64 s1) ∧ VF.cell? ⟨b2, o2 + 2, none⟩ = some (.int .i64 s2) ∧ VF.cell? ⟨b3, o3, none⟩ = some (.int .i64 n0) ∧ VF.cell? ⟨b3, o3 + 1, none⟩ = some (.int .i64 n1) ∧ VF.cell? ⟨b3, o3 + 2, none⟩ = some (.int .i64 n2) ∧ VF.cell? ⟨b3, o3 + 3, none⟩ = some (.int .i64 n3) := ⟨(Mem.cell_of_heap (hkp _ (by omega))).trans x0, (Mem.cell_of_heap (hkp _ (by omega))).trans x1, (Mem.cell_of_heap (hkp _ (by omega))).trans x2, (Mem.cell_of_heap (hkp _ (by omega))).trans x3, (Mem.cell_of_heap (hkp _ (by omega))).trans m10, (Mem.cell_of_heap (hkp _ (by omega))).trans m11, (Mem.cell_of_heap (hkp _ (by omega))).trans m12, (Mem.cell_of_heap (hkp _ (by omega))).trans m13, (Mem.cell_of_heap (hkp _ (by omega))).trans m20, (Mem.cell_of_heap (hkp _ (by omega))).trans m21, (Mem.cell_of_heap (hkp _ (by omega))).trans m22, (Mem.cell_of_heap (hkp _ (by omega))).trans m30, (Mem.cell_of_heap (hkp _ (by omega))).trans m31, (Mem.cell_of_heap (hkp _ (by omega))).trans m32, (Mem.cell_of_heap (hkp _ (by omega))).trans m33⟩
  have g0 : VF.cell? ⟨w.heap.size + 1, 0, none⟩ = some (.int .i64 p) := qF.at rfl
  have g1 : VF.cell? ⟨w.heap.size + 1, 1, none⟩ = some (.int .i64 r0) := qF.at rfl
  have g2 : VF.cell? ⟨w.heap.size + 1, 2, none⟩ = some (.int .i64 r1) := qF.at rfl
  have g3 : VF.cell? ⟨w.heap.size + 1, 3, none⟩ = some (.int .i64 r2) := qF.at rfl
  have g4 : VF.cell? ⟨w.heap.size + 1, 4, none⟩ = some (.int .i64 r3) := qF.at rfl
  have g5 : VF.cell? ⟨w.heap.size + 1, 5, none⟩ = some (.int .i64 s0) := qF.at rfl
  have g6 : VF.cell? ⟨w.heap.size + 1, 6, none⟩ = some (.int .i64 s1) := qF.at rfl
  have g7 : VF.cell? ⟨w.heap.size + 1, 7, none⟩ = some (.int .i64 s2) := qF.at rfl
  have g8 : VF.cell? ⟨w.heap.size + 1, 8, none⟩ = some (.int .i64 n0) := qF.at rfl
  have g9 : VF.cell? ⟨w.heap.size + 1, 9, none⟩ = some (.int .i64 n1) := qF.at rfl
  have g10 : VF.cell? ⟨w.heap.size + 1, 10, none⟩ = some (.int .i64 n2) := qF.at rfl
  have g11 : VF.cell? ⟨w.heap.size + 1, 11, none⟩ = some (.int .i64 n3) := qF.at rfl
  refine hK.out _ _ s9 (fun hHeld => ?_)
  clear hK K
  try simp only [Act.put, List.setIfInBounds_toArray, List.set_cons_zero, List.set_cons_succ]
  refine wpAnyH_done (by kernel_rfl) ?_ _
  go_wp2
  refine bodyPost_ret (v := .agg #[.int .i64 p, .int .i64 r0, .int .i64 r1, .int .i64 r2, .int .i64 r3, .int .i64 s0, .int .i64 s1, .int .i64 s2, .int .i64 n0, .int .i64 n1, .int .i64 n2, .int .i64 n3]) (by simp [results, Try.results42, go_sem, g0, g1, g2, g3, g4, g5, g6, g7, g8, g9, g10, g11]) rfl ?_
  exact ⟨rfl, hF⟩

set_option maxHeartbeats 1600000 in
set_option maxRecDepth 100000 in
theorem machine_no (w : World) (P : TState) (a1 : Option Addr) (c1 : Nat) (a2 : Option Addr) (c2 : Nat) (a3 : Option Addr) (c3 : Nat) (h : St w P a1 c1 a2 c2 a3 c3) (hm1 : P.f1.length ≤ 1048576) (hm2 : P.f2.length ≤ 1048576) (hm3 : P.f3.length ≤ 1048576) (hs : stateB P = false) :
    Calls Try.prog 42 #[.agg #[.int .i64 P.f0, .slice a1 P.f1.length c1, .slice a2 P.f2.length c2, .slice a3 P.f3.length c3]] w fun e w' => ∃ s, e = .panicked [gone s] ∧ Below w.heap.size w w' := by
  obtain ⟨W, hWW⟩ : ∃ Z, (w.alloc (.cells #[.int .i64 P.f0, .slice a1 P.f1.length c1, .slice a2 P.f2.length c2, .slice a3 P.f3.length c3] 27)).alloc (.cells #[.int .i64 0, .int .i64 0, .int .i64 0, .int .i64 0, .int .i64 0, .int .i64 0, .int .i64 0, .int .i64 0, .int .i64 0, .int .i64 0, .int .i64 0, .int .i64 0] 67) = Z := ⟨_, rfl⟩
  have qB : Blk 27 w.heap.size [.int .i64 P.f0, .slice a1 P.f1.length c1, .slice a2 P.f2.length c2, .slice a3 P.f3.length c3] W := by rw [← hWW]; exact (Blk.new _ [.int .i64 P.f0, .slice a1 P.f1.length c1, .slice a2 P.f2.length c2, .slice a3 P.f3.length c3] w).alloc _
  have hB : Below w.heap.size w W := by rw [← hWW]; exact ((Below.refl _ _).alloc (Nat.le_refl _) _).alloc (by rw [gsize_alloc]; omega) _
  have hK := state_impl P W a1 c1 a2 c2 a3 c3 (h.below hB) hm1 hm2 hm3
  rw [hs] at hK
  have x0 : W.cell? ⟨w.heap.size, 0, none⟩ = some (.int .i64 P.f0) := qB.at rfl
  have x1 : W.cell? ⟨w.heap.size, 1, none⟩ = some (.slice a1 P.f1.length c1) := qB.at rfl
  have x2 : W.cell? ⟨w.heap.size, 2, none⟩ = some (.slice a2 P.f2.length c2) := qB.at rfl
  have x3 : W.cell? ⟨w.heap.size, 3, none⟩ = some (.slice a3 P.f3.length c3) := qB.at rfl
  have HW := Lib.hid hWW
  clear hWW h hs
  go_enter Try.func42, Try.ntmps42
  go_upto_region 1 with fail
  rw [HW.out]
  go_wp2_with fail
  go_at_call 15
  refine hK.mono ?_
  rintro e w1 ⟨rfl, hy⟩
  have hB := hB.trans (hy.mono hB.size)
  clear x0 x1 x2 x3 hK
  go_wp2
  exact ⟨rfl, _, rfl, hB⟩

set_option maxHeartbeats 1600000 in
set_option maxRecDepth 100000 in
theorem step_of_no (lo hi : Nat) (w : World) (A : Option Addr) (c : Nat) (l : List TOp) (hl : Lies lo hi w (dOp l) (.slice A l.length c)) (hh : hi ≤ w.heap.size) (hm : l.length ≤ 1048576) (p r0 r1 r2 r3 s0 s1 s2 n0 n1 n2 n3 : Int) (hno : scriptB l = false ∨ (l.length : Int) ≤ p) :
    Calls Try.prog 44 #[.agg #[.int .i64 p, .int .i64 r0, .int .i64 r1, .int .i64 r2, .int .i64 r3, .int .i64 s0, .int .i64 s1, .int .i64 s2, .int .i64 n0, .int .i64 n1, .int .i64 n2, .int .i64 n3], .slice A l.length c] w fun e w' => ∃ s, e = .panicked [gone s] ∧ Below w.heap.size w w' := by
  obtain ⟨W, hWW⟩ : ∃ Z, (w.alloc (.cells #[.int .i64 p, .int .i64 r0, .int .i64 r1, .int .i64 r2, .int .i64 r3, .int .i64 s0, .int .i64 s1, .int .i64 s2, .int .i64 n0, .int .i64 n1, .int .i64 n2, .int .i64 n3] 67)).alloc (.cells #[.int .i64 0, .int .i64 0, .int .i64 0, .int .i64 0] 71) = Z := ⟨_, rfl⟩
  have qB : Blk 67 w.heap.size [.int .i64 p, .int .i64 r0, .int .i64 r1, .int .i64 r2, .int .i64 r3, .int .i64 s0, .int .i64 s1, .int .i64 s2, .int .i64 n0, .int .i64 n1, .int .i64 n2, .int .i64 n3] W := by rw [← hWW]; exact (Blk.new _ [.int .i64 p, .int .i64 r0, .int .i64 r1, .int .i64 r2, .int .i64 r3, .int .i64 s0, .int .i64 s1, .int .i64 s2, .int .i64 n0, .int .i64 n1, .int .i64 n2, .int .i64 n3] w).alloc _
  have hB : Below w.heap.size w W := by rw [← hWW]; exact ((Below.refl _ _).alloc (Nat.le_refl _) _).alloc (by rw [gsize_alloc]; omega) _
  have hK := script_impl lo hi W A c l (hl.below hB) (Nat.le_trans hh hB.size) hm
  have HW := Lib.hid hWW
  obtain ⟨n, hn⟩ : ∃ n, l.length = n := ⟨_, rfl⟩
  rw [hn] at hK hno ⊢
  obtain ⟨sb, hsb⟩ : ∃ b, scriptB l = b := ⟨_, rfl⟩
  rw [hsb] at hK hno
  clear hWW hl hh hm hn hsb
  cases sb with
  | false =>
    clear hno
    go_enter Try.func44, Try.ntmps44
    go_upto_region 1 with fail
    rw [HW.out]
    go_wp2_with fail
    go_at_call 14
    refine hK.mono ?_
    rintro e w1 ⟨rfl, hy⟩
    have hB := hB.trans (hy.mono hB.size)
    go_wp2
    exact ⟨rfl, _, rfl, hB⟩
  | true =>
    have hge : decide (p ≥ (n : Int)) = true := by
      rw [decide_eq_true_eq]
      rcases hno with h | h
      · exact absurd h (by simp)
      · exact h
    have hge2 : decide ((n : Int) ≤ p) = true := hge
    go_enter Try.func44, Try.ntmps44
    go_upto_region 1 with fail
    rw [HW.out]
    go_wp2_with fail
    go_at_call 14
    refine hK.mono ?_
    rintro e w1 ⟨rfl, hy⟩
    have qB := qB.below hy
    have hB := hB.trans (hy.mono hB.size)
    have x0 : w1.cell? ⟨w.heap.size, 0, none⟩ = some (.int .i64 p) := qB.at rfl
    go_wp2
    exact ⟨rfl, _, rfl, hB⟩

set_option maxHeartbeats 1600000 in
set_option maxRecDepth 100000 in
theorem step_of_yes (lo hi : Nat) (w : World) (A : Option Addr) (c : Nat) (l : List TOp) (hl : Lies lo hi w (dOp l) (.slice A l.length c)) (hh : hi ≤ w.heap.size) (hm : l.length ≤ 1048576) (p r0 r1 r2 r3 s0 s1 s2 n0 n1 n2 n3 : Int) (hsc : scriptB l = true) (h0 : 0 ≤ p) (hp : p < (l.length : Int)) (o : TOp) (ho : l.getD p.toNat nOp = o) :
    Calls Try.prog 44 #[.agg #[.int .i64 p, .int .i64 r0, .int .i64 r1, .int .i64 r2, .int .i64 r3, .int .i64 s0, .int .i64 s1, .int .i64 s2, .int .i64 n0, .int .i64 n1, .int .i64 n2, .int .i64 n3], .slice A l.length c] w fun e w' => e = .returned (.agg #[.int .i64 o.f0, .int .i64 o.f1, .int .i64 o.f2, .int .i64 o.f3]) ∧ Below w.heap.size w w' := by
  obtain ⟨W, hWW⟩ : ∃ Z, (w.alloc (.cells #[.int .i64 p, .int .i64 r0, .int .i64 r1, .int .i64 r2, .int .i64 r3, .int .i64 s0, .int .i64 s1, .int .i64 s2, .int .i64 n0, .int .i64 n1, .int .i64 n2, .int .i64 n3] 67)).alloc (.cells #[.int .i64 0, .int .i64 0, .int .i64 0, .int .i64 0] 71) = Z := ⟨_, rfl⟩
  have qB : Blk 67 w.heap.size [.int .i64 p, .int .i64 r0, .int .i64 r1, .int .i64 r2, .int .i64 r3, .int .i64 s0, .int .i64 s1, .int .i64 s2, .int .i64 n0, .int .i64 n1, .int .i64 n2, .int .i64 n3] W := by rw [← hWW]; exact (Blk.new _ [.int .i64 p, .int .i64 r0, .int .i64 r1, .int .i64 r2, .int .i64 r3, .int .i64 s0, .int .i64 s1, .int .i64 s2, .int .i64 n0, .int .i64 n1, .int .i64 n2, .int .i64 n3] w).alloc _
  have qR : Blk 71 (w.heap.size + 1) [.int .i64 0, .int .i64 0, .int .i64 0, .int .i64 0] W := by
    have := Blk.new 71 [.int .i64 0, .int .i64 0, .int .i64 0, .int .i64 0] (w.alloc (.cells #[.int .i64 p, .int .i64 r0, .int .i64 r1, .int .i64 r2, .int .i64 r3, .int .i64 s0, .int .i64 s1, .int .i64 s2, .int .i64 n0, .int .i64 n1, .int .i64 n2, .int .i64 n3] 67))
    rw [gsize_alloc] at this
    rw [← hWW]; exact this
  have hB : Below w.heap.size w W := by rw [← hWW]; exact ((Below.refl _ _).alloc (Nat.le_refl _) _).alloc (by rw [gsize_alloc]; omega) _
  have hK := script_impl lo hi W A c l (hl.below hB) (Nat.le_trans hh hB.size) hm
  rw [hsc] at hK
  have HW := Lib.hid hWW
  obtain ⟨j, rfl⟩ : ∃ j : Nat, p = (j : Int) := ⟨p.toNat, by omega⟩
  have hj : j < l.length := by omega
  rw [Int.toNat_natCast] at ho
  have hcop := at_Op hl hj
  rw [ho] at hcop
  obtain ⟨b, off, rfl, _, hbh, ⟨y0, y1, y2, y3⟩, _⟩ := hcop
  obtain ⟨n, hn⟩ : ∃ n, l.length = n := ⟨_, rfl⟩
  rw [hn] at hK hj ⊢
  have hd : decide ((j : Int) ≥ (n : Int)) = false := by rw [decide_eq_false_iff_not]; omega
  have hd2 : decide ((n : Int) ≤ (j : Int)) = false := hd
  have hbw : b < w.heap.size := by omega
  clear hWW hl hh hm hn hsc hp h0 ho
  go_enter Try.func44, Try.ntmps44
  go_upto_region 1 with fail
  rw [HW.out]
  go_wp2_with fail
  go_at_call 14
  refine hK.mono ?_
  rintro e w1 ⟨rfl, hy⟩
  have qB := qB.below hy
  have qR := qR.below hy
  have hB := hB.trans (hy.mono hB.size)
  have x0 : w1.cell? ⟨w.heap.size, 0, none⟩ = some (.int .i64 (j : Int)) := qB.at rfl
  have y0 := (Mem.cell_of_heap (hB.block b hbw)).trans y0
  have y1 := (Mem.cell_of_heap (hB.block b hbw)).trans y1
  have y2 := (Mem.cell_of_heap (hB.block b hbw)).trans y2
  have y3 := (Mem.cell_of_heap (hB.block b hbw)).trans y3
  have z0 : w1.cell? ⟨w.heap.size + 1, 0, none⟩ = some (.int .i64 0) := qR.at rfl
  have z1 : w1.cell? ⟨w.heap.size + 1, 1, none⟩ = some (.int .i64 0) := qR.at rfl
  have z2 : w1.cell? ⟨w.heap.size + 1, 2, none⟩ = some (.int .i64 0) := qR.at rfl
  have z3 : w1.cell? ⟨w.heap.size + 1, 3, none⟩ = some (.int .i64 0) := qR.at rfl
  have f0 := qR.free 0
  have f1 := qR.free 1
  have f2 := qR.free 2
  have f3 := qR.free 3
  obtain ⟨V, hV⟩ : ∃ V, (((w1.setCell ⟨w.heap.size + 1, 0, none⟩ (.int .i64 o.f0)).setCell ⟨w.heap.size + 1, 1, none⟩ (.int .i64 o.f1)).setCell ⟨w.heap.size + 1, 2, none⟩ (.int .i64 o.f2)).setCell ⟨w.heap.size + 1, 3, none⟩ (.int .i64 o.f3) = V := ⟨_, rfl⟩
  have qF := (((qR.set 0 (.int .i64 o.f0)).set 1 (.int .i64 o.f1)).set 2 (.int .i64 o.f2)).set 3 (.int .i64 o.f3)
  simp only [List.set_cons_zero, List.set_cons_succ] at qF
  have hF := (((hB.setCell (p := ⟨w.heap.size + 1, 0, none⟩) (Nat.le_succ _) (.int .i64 o.f0)).setCell (p := ⟨w.heap.size + 1, 1, none⟩) (Nat.le_succ _) (.int .i64 o.f1)).setCell (p := ⟨w.heap.size + 1, 2, none⟩) (Nat.le_succ _) (.int .i64 o.f2)).setCell (p := ⟨w.heap.size + 1, 3, none⟩) (Nat.le_succ _) (.int .i64 o.f3)
  rw [hV] at qF hF
  have HV := Lib.hid hV
  have g0 := qF.at (x := 0) rfl
  have g1 := qF.at (x := 1) rfl
  have g2 := qF.at (x := 2) rfl
  have g3 := qF.at (x := 3) rfl
  clear hV
  go_wp2
  rw [HV.out]
  refine bodyPost_ret (v := .agg #[.int .i64 o.f0, .int .i64 o.f1, .int .i64 o.f2, .int .i64 o.f3]) (by simp [results, Try.results44, go_sem, g0, g1, g2, g3]) rfl ?_
  exact ⟨rfl, hF⟩
end Go.Proofs.Ytbohkohccnieiaa.Mach
