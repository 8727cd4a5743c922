/-
  The exact laws' helpers: the test that marks are held, at a resource and at a slice of parts.
  Conditions: the marks lie in memory.
-/
import Derived.Test.YtedjclnojocjkaaPtsMark
namespace Go.Proofs.Ytedjclnojocjkaa.Parts
open Go Go.RowKit Go.Proofs.Ytedjclnojocjkaa.Mem Go.Proofs.Ytedjclnojocjkaa.Adr Go.Proofs.Ytedjclnojocjkaa.Res

set_option maxRecDepth 100000 in
theorem held_res (lo hi k0 : Nat) (k h p q : Int) (w : World) (a : Option Addr) (n c : Nat) (ho : Row .i64 lo hi w a n (marks .i64 k0 n)) (hn : n + k0 ≤ 1125899906842624) :
    Calls Try.prog 14 #[(Value.agg #[Value.int IntKind.i64 (k), Value.slice (a) (n) (c), Value.int IntKind.i64 (h), Value.int IntKind.i64 (p), Value.int IntKind.i64 (q)]), .int .i64 k0] w fun e w' => e = .returned (.int .i64 ((k0 + n : Nat) : Int)) ∧ Below w.heap.size w w' := by
  have hB1 : Below w.heap.size w (w.alloc (.cells #[.int .i64 k, .slice a n c, .int .i64 h, .int .i64 p, .int .i64 q] 28)) := by repeat' (first | exact Below.refl _ _ | assumption | refine Below.setCell ?_ ?_ _ | refine Below.alloc ?_ ?_ _ | refine Adr.below_drewN ?_ _ | refine Below.drew ?_ | exact Nat.le_refl _ | omega | (dsimp only; omega) | refine Adr.le_alloc ?_ | refine Adr.le_set ?_ | refine Adr.le_drewN ?_ | refine Adr.le_drew ?_)
  have hM := Nts.held_any lo hi k0 _ a n c (ho.below hB1) (by omega)
  obtain ⟨r, hr⟩ : ∃ r : Int, r = ((k0 + n : Nat) : Int) := ⟨_, rfl⟩
  rw [← hr] at hM ⊢
  have hd : decide (r < 0) = false := by simp; omega
  clear hr
  go_enter Try.func14, Try.ntmps14
  go_wp2_with fail
  go_at_call 30
  refine hM.mono ?_
  rintro e w1 ⟨rfl, m, rfl⟩
  go_wp2
  go_ret
  exact ⟨rfl, Mem.below_drewN hB1 m⟩

end Go.Proofs.Ytedjclnojocjkaa.Parts
