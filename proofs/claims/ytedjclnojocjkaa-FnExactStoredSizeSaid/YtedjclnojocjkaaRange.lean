/-
  The program's InRange and the model's l1In: a number between two others.
  Conditions: none.
-/
import Derived.Test.YtedjclnojocjkaaProg
import Derived.WalkKit
import Derived.BigQuiet
import Derived.Deep.QuietTactic
namespace Go.Proofs.Ytedjclnojocjkaa.Range
open Go Go.RowKit

end Go.Proofs.Ytedjclnojocjkaa.Range
