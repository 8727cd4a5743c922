/-
  The draw of one of several texts.
  Conditions: the bytes lie below the cursor's block.
-/
import Derived.Test.YtpplinfjpbfaoaaDoorDraw
namespace Go.Proofs.YtpplinfjpbfaoaaDoor.Draw
open Go Go.RowKit

set_option maxRecDepth 100000 in
theorem str_any (B p q c : Nat) (zs : List ByteArray) (w : World) (hc : Cur 47 B p w) (hq : q ≠ p) (hz : ∀ j (h : j < zs.length), w.cell? ⟨q, j, none⟩ = some (.string zs[j])) (h0 : 0 < zs.length) (h1 : zs.length ≤ 1000) :
    Calls Tryd.prog 16 #[.pointer (some ⟨p, 0, none⟩), .slice (some ⟨q, 0, none⟩) zs.length c] w fun e w' => IsText zs e ∧ Cur 47 B p w' ∧ Only p w w' := by
  go_enter Tryd.func16, Tryd.ntmps16
  go_wp2_with (go_at_call 25; refine (below_any B p zs.length _ hc (by omega) (by omega)).mono ?_; rintro e w1 ⟨⟨x, hx, rfl⟩, hc1, ho1⟩; have hx' : x < zs.length := (by omega); have hcell : w1.cell? ⟨q, x, none⟩ = some (.string zs[x]) := ho1.cell (hz x hx') hq)
  go_ret
  exact ⟨⟨zs[x], List.getElem_mem _, rfl⟩, hc1, ho1⟩

/-- The same over a list that the call has just made. -/
theorem str_new (B p : Nat) (zs : List ByteArray) (w : World) (C : Array Value) (E : TypeId) (hC : C = (zs.map Value.string).toArray) (n c : Nat) (hn : n = zs.length) (hc : Cur 47 B p w) (h0 : 0 < zs.length) (h1 : zs.length ≤ 1000) :
    Calls Tryd.prog 16 #[.pointer (some ⟨p, 0, none⟩), .slice (some ⟨w.heap.size, 0, none⟩) n c] (w.alloc (.cells C E)) fun e w' => IsText zs e ∧ Cur 47 B p w' ∧ Only p w w' := by
  subst hn hC
  refine (str_any B p w.heap.size c zs _ (hc.below ((Below.refl _ _).alloc (Nat.le_refl _) _)) (by have := hc.lt; omega) (fun j hj => ?_) h0 h1).mono ?_
  · rw [World.cell?_alloc_mark w _ E (0, 0) j]; simp [hj]
  · rintro e w' ⟨he, hc', ho⟩; exact ⟨he, hc', ((Only.refl p w).alloc _).trans ho⟩

end Go.Proofs.YtpplinfjpbfaoaaDoor.Draw
