/-
  DERIVED. GIVEN WITH THE SEED: THE PROGRAM's TIES (one call each: nine closed facts by the kernel) AND EACH ROW's TIE, after the 31st guide's Derived/Test/Toyas{Tie, Card}.lean. No idea stands in it: it is a product of the set-up. Laid BY PROGRAM, IN A SANDBOX (cutbox-door.mjs). By AI agents, Wed Nov 11 2026. No macro, syntax, notation, axiom, sorry.
-/
import Derived.Test.YtedjclnojocjkaaDoorRows
import Derived.LaidByTextLater
import Derived.SevenTiedAt
import Derived.LaidSub
import Derived.LaidOnce
namespace Go.Proofs.YtedjclnojocjkaaDoor
open Go
set_option maxRecDepth 100000
theorem seatTie1 : Tryd.prog.laidByTextLater [("loop.example/g03002/impl.errNoStore", Rows.laid_loop_example_g03002_impl_errNoStore), ("loop.example/g03002/impl.errNoPart", Rows.laid_loop_example_g03002_impl_errNoPart)] [.sentinel, .sentinel] true :=
  Program.laidByTextLater_by_one 47 8 2 (by kernel_rfl) (by kernel_rfl) (by kernel_rfl) (by kernel_rfl) (by kernel_rfl) (by kernel_rfl) (fun _ _ => by kernel_rfl)
theorem noOwnUnsafe : Tryd.pinned.checked.prog.headLifts.contains "ownunsafe" = false := by kernel_rfl
theorem tie : Tryd.prog.laidByTextLater [("loop.example/g03002/impl.errNoStore", Rows.laid_loop_example_g03002_impl_errNoStore)] [.sentinel] true :=
  Program.laidByTextLater.sub seatTie1 ["loop.example/g03002/impl.errNoStore"] (by kernel_rfl) (by kernel_rfl)
theorem fnExactIsStore_row_tie : Rows.fnExactIsStoreRow.laidByTextAt .later Tryd.pinned [.sentinel] true :=
  OpenClaim.laidByTextAt_later rfl rfl tie noOwnUnsafe
theorem tie2 : Tryd.prog.laidByTextLater [("loop.example/g03002/impl.errNoStore", Rows.laid_loop_example_g03002_impl_errNoStore), ("loop.example/g03002/impl.errNoPart", Rows.laid_loop_example_g03002_impl_errNoPart)] [.sentinel, .sentinel] true :=
  Program.laidByTextLater.sub seatTie1 ["loop.example/g03002/impl.errNoStore", "loop.example/g03002/impl.errNoPart"] (by kernel_rfl) (by kernel_rfl)
theorem fnExactTakePart_row_tie : Rows.fnExactTakePartRow.laidByTextAt .later Tryd.pinned [.sentinel, .sentinel] true :=
  OpenClaim.laidByTextAt_later rfl rfl tie2 noOwnUnsafe
theorem fnExactIsStoreUpto_row_tie : Rows.fnExactIsStoreUptoRow.laidByTextAt .later Tryd.pinned [.sentinel] true :=
  OpenClaim.laidByTextAt_later rfl rfl tie noOwnUnsafe
theorem fnExactTakePartUpto_row_tie : Rows.fnExactTakePartUptoRow.laidByTextAt .later Tryd.pinned [.sentinel, .sentinel] true :=
  OpenClaim.laidByTextAt_later rfl rfl tie2 noOwnUnsafe
end Go.Proofs.YtedjclnojocjkaaDoor
