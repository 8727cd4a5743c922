/-
  The smaller and the greater of two integers: the model and the program.
  Conditions: none.
-/
import Derived.Test.YtnadalpehbeopaaAdr
import Derived.LoopN
namespace Go.Proofs.Ytnadalpehbeopaa.MinMax
open Go Go.RowKit Go.Proofs.Ytnadalpehbeopaa.Adr

set_option maxRecDepth 100000 in
theorem min_impl (a b m : Int) (w : World) (h : (a < b ∧ m = a) ∨ (b ≤ a ∧ m = b)) :
    Calls Try.prog 52 #[.int .i64 a, .int .i64 b] w fun e w' => e = .returned (.int .i64 m) ∧ Below w.heap.size w w' := by
  by_cases he : a = b
  · subst he
    obtain rfl : m = a := by omega
    go_enter Try.func52, Try.ntmps52
    go_wp2
    refine wp_loop_rounds 2 ?_
    rw [rounds_succ]
    go_wp2
    rw [rounds_succ]
    go_wp2
    go_ret
    exact ⟨rfl, by repeat' (first | exact Below.refl _ _ | assumption | refine Below.setCell ?_ ?_ _ | refine Below.alloc ?_ ?_ _ | refine Adr.below_drewN ?_ _ | refine Below.drew ?_ | exact Nat.le_refl _ | omega | (dsimp only; omega) | refine Adr.le_alloc ?_ | refine Adr.le_set ?_ | refine Adr.le_drewN ?_ | refine Adr.le_drew ?_)⟩
  rcases h with ⟨h, rfl⟩ | ⟨h, rfl⟩
  · have h1 : m ≤ b := by omega
    go_enter Try.func52, Try.ntmps52
    go_wp2
    refine wp_loop_rounds 2 ?_
    rw [rounds_succ]
    go_wp2
    rw [rounds_succ]
    go_wp2
    go_ret
    exact ⟨rfl, by repeat' (first | exact Below.refl _ _ | assumption | refine Below.setCell ?_ ?_ _ | refine Below.alloc ?_ ?_ _ | refine Adr.below_drewN ?_ _ | refine Below.drew ?_ | exact Nat.le_refl _ | omega | (dsimp only; omega) | refine Adr.le_alloc ?_ | refine Adr.le_set ?_ | refine Adr.le_drewN ?_ | refine Adr.le_drew ?_)⟩
  · have h1 : m < a := by omega
    go_enter Try.func52, Try.ntmps52
    go_wp2
    refine wp_loop_rounds 2 ?_
    rw [rounds_succ]
    go_wp2
    rw [rounds_succ]
    go_wp2
    go_ret
    exact ⟨rfl, by repeat' (first | exact Below.refl _ _ | assumption | refine Below.setCell ?_ ?_ _ | refine Below.alloc ?_ ?_ _ | refine Adr.below_drewN ?_ _ | refine Below.drew ?_ | exact Nat.le_refl _ | omega | (dsimp only; omega) | refine Adr.le_alloc ?_ | refine Adr.le_set ?_ | refine Adr.le_drewN ?_ | refine Adr.le_drew ?_)⟩

set_option maxRecDepth 100000 in
theorem max_impl (a b m : Int) (w : World) (h : (b < a ∧ m = a) ∨ (a ≤ b ∧ m = b)) :
    Calls Try.prog 53 #[.int .i64 a, .int .i64 b] w fun e w' => e = .returned (.int .i64 m) ∧ Below w.heap.size w w' := by
  by_cases he : a = b
  · subst he
    obtain rfl : m = a := by omega
    go_enter Try.func53, Try.ntmps53
    go_wp2
    refine wp_loop_rounds 2 ?_
    rw [rounds_succ]
    go_wp2
    rw [rounds_succ]
    go_wp2
    go_ret
    exact ⟨rfl, by repeat' (first | exact Below.refl _ _ | assumption | refine Below.setCell ?_ ?_ _ | refine Below.alloc ?_ ?_ _ | refine Adr.below_drewN ?_ _ | refine Below.drew ?_ | exact Nat.le_refl _ | omega | (dsimp only; omega) | refine Adr.le_alloc ?_ | refine Adr.le_set ?_ | refine Adr.le_drewN ?_ | refine Adr.le_drew ?_)⟩
  rcases h with ⟨h, rfl⟩ | ⟨h, rfl⟩
  · have h1 : b ≤ m := by omega
    go_enter Try.func53, Try.ntmps53
    go_wp2
    refine wp_loop_rounds 2 ?_
    rw [rounds_succ]
    go_wp2
    rw [rounds_succ]
    go_wp2
    go_ret
    exact ⟨rfl, by repeat' (first | exact Below.refl _ _ | assumption | refine Below.setCell ?_ ?_ _ | refine Below.alloc ?_ ?_ _ | refine Adr.below_drewN ?_ _ | refine Below.drew ?_ | exact Nat.le_refl _ | omega | (dsimp only; omega) | refine Adr.le_alloc ?_ | refine Adr.le_set ?_ | refine Adr.le_drewN ?_ | refine Adr.le_drew ?_)⟩
  · have h1 : a < m := by omega
    go_enter Try.func53, Try.ntmps53
    go_wp2
    refine wp_loop_rounds 2 ?_
    rw [rounds_succ]
    go_wp2
    rw [rounds_succ]
    go_wp2
    go_ret
    exact ⟨rfl, by repeat' (first | exact Below.refl _ _ | assumption | refine Below.setCell ?_ ?_ _ | refine Below.alloc ?_ ?_ _ | refine Adr.below_drewN ?_ _ | refine Below.drew ?_ | exact Nat.le_refl _ | omega | (dsimp only; omega) | refine Adr.le_alloc ?_ | refine Adr.le_set ?_ | refine Adr.le_drewN ?_ | refine Adr.le_drew ?_)⟩
end Go.Proofs.Ytnadalpehbeopaa.MinMax
