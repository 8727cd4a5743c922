/-
  The program's copy of a resource.
  Conditions: the body lies in memory, of at most 2^20 numbers.
-/
import Derived.Test.YtldpgkbemgpacaaRes
import Derived.Deep.RegionHeld3
namespace Go.Proofs.Ytldpgkbemgpacaa.Res
open Go Go.RowKit Go.Proofs.Ytldpgkbemgpacaa.Mem Go.Proofs.Ytldpgkbemgpacaa.Adr

set_option maxHeartbeats 1000000 in
set_option maxRecDepth 100000 in
theorem clone_ints (lo hi : Nat) (w : World) (a : Option Addr) (n c : Nat) (zs : List Int) (hr : Row .i64 lo hi w a n zs) (hn : n ≤ 1048576) :
    Calls Try.prog 79 #[.slice a n c] w (Slice .i64 w.heap.size n zs w) := by
  obtain ⟨i0, hi0, hz0, hz1, hz2⟩ := info_parts Nts.info
  rcases a with _ | ad
  · have hm : n = 0 := by
      rcases Nat.eq_zero_or_pos n with h0 | h0
      · exact h0
      · obtain ⟨b, off, h, _⟩ := hr.here h0; cases h
    subst hm
    obtain rfl := List.eq_nil_of_length_eq_zero hr.len
    have he : ∀ w : World, (binOp .eql 29 (.slice none 0 c) (.slice none 0 0)).run Try.prog w = .ok (.bool true) w := fun _ => rfl
    go_enter Try.func79, Try.ntmps79
    go_wp2
    go_ret
    exact ⟨none, 0, rfl, Own.nil _ _ _ _ _, Nat.le_refl _, Nat.zero_le _, Below.refl _ _⟩
  · have hvE : OwnI .i64 3 w.heap.size (w.alloc (.cells #[] 3)) (.slice (some ⟨w.heap.size, 0, none⟩) 0 0) 0 [] := OwnI.made .i64 3 (base := w.heap.size) w (Nat.le_refl _)
    have hB : Below w.heap.size w (w.alloc (.cells #[] 3)) := by repeat' (first | exact Below.refl _ _ | assumption | refine Below.setCell ?_ ?_ _ | refine Below.alloc ?_ ?_ _ | refine Adr.below_drewN ?_ _ | refine Below.drew ?_ | exact Nat.le_refl _ | omega | (dsimp only; omega) | refine Adr.le_alloc ?_ | refine Adr.le_set ?_ | refine Adr.le_drewN ?_ | refine Adr.le_drew ?_)
    have hrE := hr.below hB
    have he : ∀ w : World, (binOp .eql 29 (.slice (some ad) n c) (.slice none 0 0)).run Try.prog w = .ok (.bool false) w := fun _ => rfl
    go_enter Try.func79, Try.ntmps79
    go_wp2_with (at_builtin; refine wpList_append_row rfl _ _ 29 rfl w.heap.size 3 i0 _ 8 Try.underlying29 hi0 hz0 hz1 hz2 rfl _ 0 [] rfl hvE lo hi (some ad) n c zs rfl hrE ?c3 ?c4 ?c5 ?_; (case c3 => unfold maxLen; omega); (case c4 => omega); (case c5 => exact le_alloc (Nat.le_refl _)); intro v' w' hv hb)
    go_wp2
    go_ret
    simp only [Nat.zero_add, List.nil_append] at hv
    obtain ⟨a', c', rfl, h1, h2, h3⟩ := hv.own hr.wf
    exact ⟨a', c', rfl, h3, h1, h2, hB.trans hb⟩

set_option maxHeartbeats 1000000 in
set_option maxRecDepth 100000 in
theorem copy_res (lo hi : Nat) (k h p q : Int) (w : World) (a : Option Addr) (n c : Nat) (zs : List Int) (hr : Row .i64 lo hi w a n zs) (hn : n ≤ 1048576) :
    Calls Try.prog 66 #[(Value.agg #[Value.int IntKind.i64 (k), Value.slice (a) (n) (c), Value.int IntKind.i64 (h), Value.int IntKind.i64 (p), Value.int IntKind.i64 (q)])] w (Copied w.heap.size k h p q n zs w) := by
  obtain ⟨O1, hO1⟩ : ∃ O, O = Obj.cells #[Value.int .i64 k, .slice a n c, .int .i64 h, .int .i64 p, .int .i64 q] 31 (0, 0) := ⟨_, rfl⟩
  obtain ⟨O2, hO2⟩ : ∃ O, O = Obj.cells #[Value.int .i64 0, .slice none 0 0, .int .i64 0, .int .i64 0, .int .i64 0] 31 (0, 0) := ⟨_, rfl⟩
  have hB1 : Below w.heap.size w ((w.alloc O1).alloc O2) := by repeat' (first | exact Below.refl _ _ | assumption | refine Below.setCell ?_ ?_ _ | refine Below.alloc ?_ ?_ _ | refine Adr.below_drewN ?_ _ | refine Below.drew ?_ | exact Nat.le_refl _ | omega | (dsimp only; omega) | refine Adr.le_alloc ?_ | refine Adr.le_set ?_ | refine Adr.le_drewN ?_ | refine Adr.le_drew ?_)
  have hS1 : ((w.alloc O1).alloc O2).heap.size = w.heap.size + 2 := by simp only [size_alloc]
  have qA : Quint 31 w.heap.size (.int .i64 k) (.slice a n c) (.int .i64 h) (.int .i64 p) (.int .i64 q) ((w.alloc O1).alloc O2) := by rw [hO1]; exact (Quint.new _ _ _ _ _ _ w).alloc _
  have qR : Quint 31 (w.heap.size + 1) (.int .i64 0) (.slice none 0 0) (.int .i64 0) (.int .i64 0) (.int .i64 0) ((w.alloc O1).alloc O2) := by have := Quint.new 31 (.int .i64 0) (.slice none 0 0) (.int .i64 0) (.int .i64 0) (.int .i64 0) (w.alloc O1); rw [size_alloc] at this; rw [hO2]; exact this
  have hT := clone_ints lo hi ((w.alloc O1).alloc O2) a n c zs (hr.below hB1) hn
  subst hO1 hO2
  obtain ⟨a0, a1, a2, a3, a4⟩ := qA.cells
  go_enter Try.func66, Try.ntmps66
  go_wp2_with fail
  go_at_call 79
  refine hT.mono ?_
  rintro e w1 ⟨a', c', rfl, hO, hnc, hcm, hb1⟩
  have hB2 := hB1.trans (hb1.mono hB1.size)
  have hS2 := hb1.size
  have qA1 := qA.below hb1
  have qR1 := qR.below hb1
  rw [hS1] at hS2 hO
  clear hT a0 a1 a2 a3 a4 hr hb1 qA qR hB1
  obtain ⟨a0, a1, a2, a3, a4⟩ := qA1.cells
  obtain ⟨f0, f1, f2, f3, f4⟩ := qA1.frozen
  obtain ⟨fr0, fr1, fr2, fr3, fr4⟩ := qR1.frozen
  have qA2 := qA1.set1 (.slice a' n c')
  have qR2 := qR1.other (a := ⟨w.heap.size, 1, none⟩) (.slice a' n c') (by simp)
  obtain ⟨x0, x1, x2, x3, x4⟩ := qA2.cells
  obtain ⟨r0, r1, r2, r3, r4⟩ := qR2.cells
  obtain ⟨g0, g1, g2, g3, g4⟩ := (((((qR2.set0 (.int .i64 k)).set1 (.slice a' n c')).set2 (.int .i64 h)).set3 (.int .i64 p)).set4 (.int .i64 q)).cells
  go_wp2
  refine bodyPost_ret (v := (Value.agg #[Value.int IntKind.i64 (k), Value.slice (a') (n) (c'), Value.int IntKind.i64 (h), Value.int IntKind.i64 (p), Value.int IntKind.i64 (q)])) (by simp [results, Try.results66, go_sem, g0, g1, g2, g3, g4]) rfl ⟨a', c', rfl, (hO.zone (lo' := 0) (hi' := w.heap.size + 2) ?_ (Or.inr (Nat.le_refl _))).more (by omega) (by simp only [size_set]; omega), hnc, hcm, ?_⟩
  · iterate 6 (refine Zone.setCell ?_ ⟨by omega, by omega⟩ _)
    exact Zone.refl _ _ _
  · iterate 6 (refine Below.setCell ?_ (by dsimp only; omega) _)
    exact hB2
end Go.Proofs.Ytldpgkbemgpacaa.Res
