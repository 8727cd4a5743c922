/-
  The machine, the program: all six contracts.
  Conditions: none.
-/
import Derived.Test.YtbohkohccnieiaaMachSI
import Derived.Test.YtbohkohccnieiaaMachC
namespace Go.Proofs.Ytbohkohccnieiaa.Mach
open Go Go.RowKit Go.Proofs.Ytbohkohccnieiaa.Mem Go.Proofs.Ytbohkohccnieiaa.Gen Go.Proofs.Ytbohkohccnieiaa.Scripts

theorem implC : ImplC where
  start := start_impl
  state := fun P w a1 c1 a2 c2 a3 c3 h hm1 hm2 hm3 => state_impl P w a1 c1 a2 c2 a3 c3 h hm1 hm2 hm3
  want := fun lo hi w A c l hl hh hm P a1 c1 a2 c2 a3 c3 h hm1 hm2 hm3 => want_impl lo hi w A c l hl hh hm P a1 c1 a2 c2 a3 c3 h hm1 hm2 hm3
  step := fun lo hi w A c l hl hh hm P a1 c1 a2 c2 a3 c3 h hm1 hm2 hm3 _ v => step_impl lo hi w A c l hl hh hm P a1 c1 a2 c2 a3 c3 h hm1 hm2 hm3 v
  done := fun _ _ w A c l _ _ _ P a1 c1 a2 c2 a3 c3 _ _ _ _ => done_impl w A c l.length P a1 c1 a2 c2 a3 c3
  equal := fun P Q w a1 c1 a2 c2 a3 c3 e1 g1 e2 g2 e3 g3 h k hm1 hm2 hm3 hn1 hn2 hn3 => equal_impl P Q w a1 c1 a2 c2 a3 c3 h e1 g1 e2 g2 e3 g3 k hm1 hm2 hm3 hn1 hn2 hn3
end Go.Proofs.Ytbohkohccnieiaa.Mach
