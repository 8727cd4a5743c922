/-
  The library's Grow and Concat at []int: three rows joined in a new one.
  Conditions: the rows lie in memory; together they have at most 2^42 numbers, and the first has one at least.
-/
import Derived.Test.YtmiemfecbllhfaaInts
import Derived.Lib.AppendZeros
import Derived.Lib.Walk
import Derived.Lib.SliceRun
import Derived.Deep.AppendSrc
namespace Go.Proofs.Ytmiemfecbllhfaa.Cat
open Go Go.RowKit Go.Proofs.Ytmiemfecbllhfaa.Mem
set_option linter.unusedVariables false

/-- What a call that hands back a row of the call's own has done. -/
def Rowed (base : Nat) (n : Nat) (zs : List Int) (w : World) (e : Ending) (w' : World) : Prop :=
  ∃ v, e = .returned v ∧ OwnI .i64 3 base w' v n zs ∧ Below base w w'

set_option maxHeartbeats 1000000 in
set_option maxRecDepth 100000 in
theorem grow_nil (n : Nat) (w : World) (h0 : 0 < n) (hn : n ≤ 4398046511104) :
    Calls Try.prog 62 #[.slice none 0 0, .int .i64 n] w (Rowed w.heap.size 0 [] w) := by
  obtain ⟨i0, hi0, hz0, hz1, hz2⟩ := info_parts Nts.info
  have hrz : ∀ ty, (Builtin.append_ #[28, 3] ty #[.slice none 0 0, .int .i64 n]).run Try.prog w = _ := fun ty =>
    Lib.run_append_nil_zeros w 28 3 ty 3 i0 (.int .i64 0) .i64 .i64 Try.underlying28 Try.underlying3 hi0 hz0 n h0 (by omega) (by omega) (by rw [hz2]; omega)
  have hG := grownCap_ge w n 0 3
  have hG2 := grownCap_le_maxLen w n 0 3 (by unfold maxLen; omega)
  generalize grownCap w n 0 3 = G at hrz hG hG2
  have hG3 := hG2
  unfold maxLen at hG3
  have hown : OwnI .i64 3 w.heap.size (w.drew.alloc (.cells (Builtin.zeroCells (Value.int .i64 0).cells n ++ Builtin.zeroCells (Value.int .i64 0).cells (G - n)) 3)) (.slice (some ⟨w.heap.size, 0, none⟩) 0 G) 0 [] := by
    refine ⟨rfl, .inr ⟨w.heap.size, G, _, rfl, Nat.le_refl _, heap_alloc_new w.drew _, Nat.zero_le _, hG2, ?_, by simp⟩⟩
    rw [Array.size_append, size_zeroCells, size_zeroCells]
    show n * 1 + (G - n) * 1 = G * 1
    omega
  have hb : Below w.heap.size w (w.drew.alloc (.cells (Builtin.zeroCells (Value.int .i64 0).cells n ++ Builtin.zeroCells (Value.int .i64 0).cells (G - n)) 3)) := by
    have h1 : Below w.heap.size w w.drew := ⟨rfl, rfl, rfl, Nat.le_refl _, fun _ _ => rfl⟩
    exact h1.alloc (Nat.le_refl _) _
  have HO := Lib.hid hown
  have HB := Lib.hid hb
  clear hown hb
  go_enter Try.func62, Try.ntmps62
  go_wp2_with (at_builtin; refine Lib.wpList_append_run _ rfl _ _ _ _ rfl _ _ rfl rfl _ _ (hrz _) ?_)
  all_goals go_ret
  all_goals exact ⟨_, rfl, HO.out, HB.out⟩

set_option maxHeartbeats 4000000 in
set_option maxRecDepth 100000 in
theorem concat3 (lo hi lo1 hi1 lo2 hi2 : Nat) (w : World) (B : Nat) (a a1 a2 : Option Addr) (n n1 n2 c c1 c2 : Nat) (xs ys zs : List Int)
    (h0 : w.cell? ⟨B, 0, none⟩ = some (.slice a n c)) (h1 : w.cell? ⟨B, 1, none⟩ = some (.slice a1 n1 c1)) (h2 : w.cell? ⟨B, 2, none⟩ = some (.slice a2 n2 c2))
    (hr : Row .i64 lo hi w a n xs) (hr1 : Row .i64 lo1 hi1 w a1 n1 ys) (hr2 : Row .i64 lo2 hi2 w a2 n2 zs) (hh : hi ≤ w.heap.size) (hh1 : hi1 ≤ w.heap.size) (hh2 : hi2 ≤ w.heap.size)
    (hn : n ≤ 1099511627776) (hn1 : n1 ≤ 1099511627776) (hn2 : n2 ≤ 1099511627776) (hpos : 0 < n) :
    Calls Try.prog 51 #[.slice (some ⟨B, 0, none⟩) 3 3] w (Rowed w.heap.size (n + n1 + n2) (xs ++ ys ++ zs) w) := by
  obtain ⟨i0, hi0, hz0, hz1, hz2⟩ := info_parts Nts.info
  have hBl := cell_lt h0
  go_enter Try.func51, Try.ntmps51
  go_wp2
  refine wp_loop_rounds 4 ?_
  rw [rounds_succ]
  go_wp2
  rw [rounds_succ]
  go_wp2
  rw [rounds_succ]
  go_wp2
  rw [rounds_succ]
  go_wp2_with (go_at_call 62; refine (grow_nil (n + n1 + n2) _ (by omega) (by omega)).mono ?_; rintro e w1 ⟨v1, rfl, ho1, hB1⟩)
  have g10 := (cell_of_heap (hB1.block B hBl)).trans h0
  have g11 := (cell_of_heap (hB1.block B hBl)).trans h1
  have g12 := (cell_of_heap (hB1.block B hBl)).trans h2
  have r1 := hr.under hB1 hh
  go_wp2
  refine wp_loop_rounds 4 ?_
  rw [rounds_succ]
  go_wp2_with (at_builtin; refine wpList_append_row rfl _ _ 28 rfl w.heap.size 3 i0 _ 8 Try.underlying28 hi0 hz0 hz1 hz2 rfl v1 (0) ([]) rfl ho1 lo hi a n c xs rfl r1 ?c1 ?c2 ?c3 ?_; (case c1 => unfold maxLen; omega); (case c2 => omega); (case c3 => exact hB1.size); intro v2 w2 ho2 hb2)
  rw [Nat.zero_add, List.nil_append] at ho2
  have hB2 := hB1.trans hb2
  have g20 := (cell_of_heap (hB2.block B hBl)).trans h0
  have g21 := (cell_of_heap (hB2.block B hBl)).trans h1
  have g22 := (cell_of_heap (hB2.block B hBl)).trans h2
  have r2 := hr1.under hB2 hh1
  go_wp2
  rw [rounds_succ]
  go_wp2_with (at_builtin; refine wpList_append_row rfl _ _ 28 rfl w.heap.size 3 i0 _ 8 Try.underlying28 hi0 hz0 hz1 hz2 rfl v2 (n) (xs) rfl ho2 lo1 hi1 a1 n1 c1 ys rfl r2 ?c1 ?c2 ?c3 ?_; (case c1 => unfold maxLen; omega); (case c2 => omega); (case c3 => exact hB2.size); intro v3 w3 ho3 hb3)
  have hB3 := hB2.trans hb3
  have g30 := (cell_of_heap (hB3.block B hBl)).trans h0
  have g31 := (cell_of_heap (hB3.block B hBl)).trans h1
  have g32 := (cell_of_heap (hB3.block B hBl)).trans h2
  have r3 := hr2.under hB3 hh2
  go_wp2
  rw [rounds_succ]
  go_wp2_with (at_builtin; refine wpList_append_row rfl _ _ 28 rfl w.heap.size 3 i0 _ 8 Try.underlying28 hi0 hz0 hz1 hz2 rfl v3 (n + n1) (xs ++ ys) rfl ho3 lo2 hi2 a2 n2 c2 zs rfl r3 ?c1 ?c2 ?c3 ?_; (case c1 => unfold maxLen; omega); (case c2 => omega); (case c3 => exact hB3.size); intro v4 w4 ho4 hb4)
  have hB4 := hB3.trans hb4
  go_wp2
  rw [rounds_succ]
  go_wp2
  go_ret
  exact ⟨_, rfl, ho4, hB4⟩
end Go.Proofs.Ytmiemfecbllhfaa.Cat
