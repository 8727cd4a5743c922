/-
  Rows of the call's own beside a cursor that moves.
  Conditions: none.
-/
import Derived.Test.YtbohkohccnieiaaDraw
import Derived.Test.YtbohkohccnieiaaMem
namespace Go.Proofs.Ytbohkohccnieiaa.Draw
open Go Go.RowKit Go.Proofs.Ytbohkohccnieiaa.Mem
set_option linter.unusedVariables false

theorem Only.own {p base n : Nat} {k : IntKind} {e : TypeId} {w w' : World} {v : Value} {zs : List Int} (h : OwnI k e base w v n zs) (ho : Only p w w') (hp : p < base) : OwnI k e base w' v n zs :=
  World.ownsRow.kept h (row := some p) ⟨ho.os, ho.tape, ho.output, ho.size, fun i hi hne => ho.block i hi (fun e => hne (by rw [e]))⟩ (by
    by_cases hv : v.ownBlock = some p
    · have := (World.ownsRow.lt h p hv).1; omega
    · exact .inr hv)
theorem Only.under {p B : Nat} {w w1 w2 : World} (h : Only p w w1) (hb : Below B w1 w2) (hB : w.heap.size ≤ B) : Only p w w2 :=
  ⟨hb.os.trans h.os, hb.tape.trans h.tape, hb.output.trans h.output, Nat.le_trans h.size hb.size, fun i hi hp => (hb.block i (by omega)).trans (h.block i hi hp)⟩
theorem Cur.under {T B p C : Nat} {w w' : World} (h : Cur T B p w) (hb : Below C w w') (hp : p < C) : Cur T B p w' := by
  obtain ⟨hBp, a, n, c, i, hh, h0, hi, hby⟩ := h
  refine ⟨hBp, a, n, c, i, hh, (hb.block p hp).trans h0, hi, hby.1, fun j hj => ?_⟩
  obtain ⟨b, off, x, ha, hB, hx, hc⟩ := hby.2 j hj
  exact ⟨b, off, x, ha, hB, hx, by rw [Draw.cell_of_heap (hb.block b (by omega))]; exact hc⟩
end Go.Proofs.Ytbohkohccnieiaa.Draw
