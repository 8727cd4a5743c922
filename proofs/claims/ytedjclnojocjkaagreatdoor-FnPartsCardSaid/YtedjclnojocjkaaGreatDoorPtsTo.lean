/-
  The exact laws' helpers at a part: a copy, its size; a slice of parts: its size, a copy.
  Conditions: the bodies are rows in memory; in all fewer than 2^45 numbers each.
-/
import Derived.Test.YtedjclnojocjkaaGreatDoorRes
import Derived.Test.YtedjclnojocjkaaGreatDoorLays
namespace Go.Proofs.YtedjclnojocjkaaGreatDoor.Parts
open Go Go.RowKit Go.Proofs.YtedjclnojocjkaaGreatDoor.Mem Go.Proofs.YtedjclnojocjkaaGreatDoor.Adr Go.Proofs.YtedjclnojocjkaaGreatDoor.Res

def PCopied (lo : Nat) (d k h p q u : Int) (n : Nat) (zs : List Int) (w : World) (e : Ending) (w' : World) : Prop :=
  ∃ a c, e = .returned (Value.agg #[Value.int IntKind.i64 (d), Value.int IntKind.i64 (k), Value.slice (a) (n) (c), Value.int IntKind.i64 (h), Value.int IntKind.i64 (p), Value.int IntKind.i64 (q), Value.int IntKind.i64 (u)]) ∧ Own .i64 lo w'.heap.size w' a n zs ∧ n ≤ c ∧ c ≤ maxLen ∧ Below lo w w'

set_option maxHeartbeats 1600000 in
set_option maxRecDepth 100000 in
theorem to_part (lo hi : Nat) (d k h p q u : Int) (w : World) (a : Option Addr) (n c : Nat) (zs : List Int) (hr : Row .i64 lo hi w a n zs) (hh : hi ≤ w.heap.size) (hn : n ≤ 35184372088832) :
    Calls Tryz.prog 61 #[(Value.agg #[Value.int IntKind.i64 (d), Value.int IntKind.i64 (k), Value.slice (a) (n) (c), Value.int IntKind.i64 (h), Value.int IntKind.i64 (p), Value.int IntKind.i64 (q), Value.int IntKind.i64 (u)])] w (PCopied w.heap.size d k h p q u n zs w) := by
  obtain ⟨O1, hO1⟩ : ∃ O, O = Obj.cells #[Value.int .i64 d, .int .i64 k, .slice a n c, .int .i64 h, .int .i64 p, .int .i64 q, .int .i64 u] 86 (0, 0) := ⟨_, rfl⟩
  obtain ⟨O2, hO2⟩ : ∃ O, O = Obj.cells #[Value.int .i64 0, .int .i64 0, .slice none 0 0, .int .i64 0, .int .i64 0, .int .i64 0, .int .i64 0] 62 (0, 0) := ⟨_, rfl⟩
  obtain ⟨O3, hO3⟩ : ∃ O, O = Obj.cells #[Value.int .i64 d, .int .i64 0, .slice none 0 0, .int .i64 0, .int .i64 0, .int .i64 0, .int .i64 0] 62 (0, 0) := ⟨_, rfl⟩
  have hB1 : Below w.heap.size w (((w.alloc O1).alloc O2).alloc O3) := by repeat' (first | exact Below.refl _ _ | assumption | refine Below.setCell ?_ ?_ _ | refine Below.alloc ?_ ?_ _ | refine Adr.below_drewN ?_ _ | refine Below.drew ?_ | exact Nat.le_refl _ | omega | (dsimp only; omega) | refine Adr.le_alloc ?_ | refine Adr.le_set ?_ | refine Adr.le_drewN ?_ | refine Adr.le_drew ?_)
  have hS1 : (((w.alloc O1).alloc O2).alloc O3).heap.size = w.heap.size + 3 := by simp only [size_alloc]
  have qA : Sept 86 w.heap.size (.int .i64 d) (.int .i64 k) (.slice a n c) (.int .i64 h) (.int .i64 p) (.int .i64 q) (.int .i64 u) (((w.alloc O1).alloc O2).alloc O3) := by rw [hO1]; exact ((Sept.new _ _ _ _ _ _ _ _ w).alloc _).alloc _
  have qR : Sept 62 (w.heap.size + 1) (.int .i64 0) (.int .i64 0) (.slice none 0 0) (.int .i64 0) (.int .i64 0) (.int .i64 0) (.int .i64 0) (((w.alloc O1).alloc O2).alloc O3) := by have := (Sept.new 62 (.int .i64 0) (.int .i64 0) (.slice none 0 0) (.int .i64 0) (.int .i64 0) (.int .i64 0) (.int .i64 0) (w.alloc O1)).alloc O3; rw [size_alloc] at this; rw [hO2]; exact this
  have qO : Sept 62 (w.heap.size + 1 + 1) (.int .i64 d) (.int .i64 0) (.slice none 0 0) (.int .i64 0) (.int .i64 0) (.int .i64 0) (.int .i64 0) (((w.alloc O1).alloc O2).alloc O3) := by have := Sept.new 62 (.int .i64 d) (.int .i64 0) (.slice none 0 0) (.int .i64 0) (.int .i64 0) (.int .i64 0) (.int .i64 0) ((w.alloc O1).alloc O2); rw [size_alloc, size_alloc] at this; rw [hO3]; exact this
  have hT := to_res lo hi k h p q (((w.alloc O1).alloc O2).alloc O3) a n c zs (hr.under hB1 hh) (Nat.le_trans hh hB1.size) hn
  subst hO1 hO2 hO3
  go_enter Tryz.func61, Tryz.ntmps61
  go_wp2_with fail
  go_at_call 24
  refine hT.mono ?_
  rintro e w1 ⟨a', c', rfl, hO, hnc, hcm, hb1⟩
  have qA1 := qA.below hb1
  have qR1 := qR.below hb1
  have qO1 := qO.below hb1
  have hB2 := hB1.trans (hb1.mono hB1.size)
  have hS2 := hb1.size
  rw [hS1] at hS2 hO
  clear hT hr hb1 qA qR qO hB1 hS1
  obtain ⟨a0, a1, a2, a3, a4, a5, a6⟩ := qA1.cells
  obtain ⟨r0, r1, r2, r3, r4, r5, r6⟩ := qR1.cells
  obtain ⟨o0, o1, o2, o3, o4, o5, o6⟩ := qO1.cells
  obtain ⟨f0, f1, f2, f3, f4, f5, f6⟩ := qO1.frozen
  obtain ⟨fr0, fr1, fr2, fr3, fr4, fr5, fr6⟩ := qR1.frozen
  go_wp2
  obtain ⟨g0, g1, g2, g3, g4, g5, g6⟩ := ((((((((((((((qR1.other (a := ⟨w.heap.size + 1 + 1, 1, none⟩) (.int .i64 k) (by simp)).other (a := ⟨w.heap.size + 1 + 1, 2, none⟩) (.slice a' n c') (by simp)).other (a := ⟨w.heap.size + 1 + 1, 3, none⟩) (.int .i64 h) (by simp)).other (a := ⟨w.heap.size + 1 + 1, 4, none⟩) (.int .i64 p) (by simp)).other (a := ⟨w.heap.size + 1 + 1, 5, none⟩) (.int .i64 q) (by simp)).other (a := ⟨w.heap.size + 1 + 1, 6, none⟩) (.int .i64 u) (by simp))).set0 (.int .i64 d)).set1 (.int .i64 k)).set2 (.slice a' n c')).set3 (.int .i64 h)).set4 (.int .i64 p)).set5 (.int .i64 q)).set6 (.int .i64 u)).cells
  refine bodyPost_ret (v := (Value.agg #[Value.int IntKind.i64 (d), Value.int IntKind.i64 (k), Value.slice (a') (n) (c'), Value.int IntKind.i64 (h), Value.int IntKind.i64 (p), Value.int IntKind.i64 (q), Value.int IntKind.i64 (u)])) (by simp [results, Tryz.results61, go_sem, g0, g1, g2, g3, g4, g5, g6]) rfl ⟨a', c', rfl, (hO.zone (lo' := 0) (hi' := w.heap.size + 3) ?_ (Or.inr (Nat.le_refl _))).more (by omega) (by simp only [size_set]; omega), hnc, hcm, ?_⟩
  · iterate 13 (refine Zone.setCell ?_ ⟨by omega, by omega⟩ _)
    exact Zone.refl _ _ _
  · iterate 13 (refine Below.setCell ?_ (by dsimp only; omega) _)
    exact hB2

set_option maxRecDepth 100000 in
theorem sz_part (d k h p q u : Int) (a : Option Addr) (n c : Nat) (left : Int) (w : World) (hn : (n : Int) ≤ 9223372036854775807) (hl : 0 ≤ left) (hl' : left ≤ 1048576) :
    Calls Tryz.prog 58 #[(Value.agg #[Value.int IntKind.i64 (d), Value.int IntKind.i64 (k), Value.slice (a) (n) (c), Value.int IntKind.i64 (h), Value.int IntKind.i64 (p), Value.int IntKind.i64 (q), Value.int IntKind.i64 (u)]), .int .i64 left] w fun e w' => e = .returned (.int .i64 (if (n : Int) ≤ left then left - n else -1)) ∧ Below w.heap.size w w' := by
  have hS := fun w1 => sz_res k h p q a n c left w1 hn hl hl'
  obtain ⟨r, hr⟩ : ∃ r, r = if (n : Int) ≤ left then left - n else -1 := ⟨_, rfl⟩
  rw [← hr] at hS ⊢
  have hB : Below w.heap.size w (w.alloc (.cells #[.int .i64 d, .int .i64 k, .slice a n c, .int .i64 h, .int .i64 p, .int .i64 q, .int .i64 u] 86)) := by repeat' (first | exact Below.refl _ _ | assumption | refine Below.setCell ?_ ?_ _ | refine Below.alloc ?_ ?_ _ | refine Adr.below_drewN ?_ _ | refine Below.drew ?_ | exact Nat.le_refl _ | omega | (dsimp only; omega) | refine Adr.le_alloc ?_ | refine Adr.le_set ?_ | refine Adr.le_drewN ?_ | refine Adr.le_drew ?_)
  have hr' : r = -1 ∨ 0 ≤ r := by split at hr <;> omega
  clear hr
  go_enter Tryz.func58, Tryz.ntmps58
  go_wp2_with fail
  go_at_call 21
  refine (hS _).mono ?_
  rintro e w1 ⟨rfl, hb⟩
  have hB2 := hB.trans (hb.mono hB.size)
  rcases hr' with rfl | hr'
  · go_wp2
    go_ret
    exact ⟨rfl, hB2⟩
  · have hd : decide (r < 0) = false := by simp; omega
    go_wp2
    go_ret
    exact ⟨rfl, hB2⟩
end Go.Proofs.YtedjclnojocjkaaGreatDoor.Parts
