/-
  SizeOf, of the program and of the model.
  Conditions: the body has fewer than 2^62 numbers.
-/
import Derived.Test.YtedjclnojocjkaaGreatDoorRes
namespace Go.Proofs.YtedjclnojocjkaaGreatDoor.Res
open Go Go.RowKit Go.Proofs.YtedjclnojocjkaaGreatDoor.Mem Go.Proofs.YtedjclnojocjkaaGreatDoor.Adr

set_option maxRecDepth 100000 in
theorem size_impl (k h p q : Int) (w : World) (a : Option Addr) (n c : Nat) (hn : (n : Int) ≤ 4611686018427387904) :
    Calls Tryz.prog 18 #[(Value.agg #[Value.int IntKind.i64 (k), Value.slice (a) (n) (c), Value.int IntKind.i64 (h), Value.int IntKind.i64 (p), Value.int IntKind.i64 (q)])] w fun e w' => e = .returned (.int .i64 ((n : Int) + 1)) ∧ Below w.heap.size w w' := by
  have e1 : IntKind.wrap .i64 ((n : Int) + 1) = (n : Int) + 1 := by rw [IntKind.wrap_i64]; omega
  go_enter Tryz.func18, Tryz.ntmps18
  go_wp2
  go_ret
  exact ⟨rfl, by repeat' (first | exact Below.refl _ _ | assumption | refine Below.setCell ?_ ?_ _ | refine Below.alloc ?_ ?_ _ | refine Adr.below_drewN ?_ _ | refine Below.drew ?_ | exact Nat.le_refl _ | omega | (dsimp only; omega) | refine Adr.le_alloc ?_ | refine Adr.le_set ?_ | refine Adr.le_drewN ?_ | refine Adr.le_drew ?_)⟩

end Go.Proofs.YtedjclnojocjkaaGreatDoor.Res
