/-
  A block of seven cells of the call's own: its cells, what a write makes of it.
  Conditions: none; nothing of the program stands here.
-/
import Derived.Below
import Derived.OneCell
import Derived.Laws.Rows
import Derived.Deep.Draws
namespace Go.Proofs.YtedjclnojocjkaaGreatDoor.Parts
open Go Go.RowKit

/-- Block b holds seven cells. -/
def Sept (T : TypeId) (b : Nat) (x0 x1 x2 x3 x4 x5 x6 : Value) (w : World) : Prop := w.heap[b]? = some (.cells #[x0, x1, x2, x3, x4, x5, x6] T (0, 0))
section
variable {T : TypeId} {b B : Nat} {x0 x1 x2 x3 x4 x5 x6 : Value} {w w' : World}
theorem Sept.new (T : TypeId) (x0 x1 x2 x3 x4 x5 x6 : Value) (w : World) : Sept T w.heap.size x0 x1 x2 x3 x4 x5 x6 (w.alloc (.cells #[x0, x1, x2, x3, x4, x5, x6] T)) := by
  show (w.heap.push _)[w.heap.size]? = _
  simp
theorem Sept.lt (h : Sept T b x0 x1 x2 x3 x4 x5 x6 w) : b < w.heap.size := (Array.getElem?_eq_some_iff.1 h).1
theorem Sept.below (h : Sept T b x0 x1 x2 x3 x4 x5 x6 w) (hb : Below w.heap.size w w') : Sept T b x0 x1 x2 x3 x4 x5 x6 w' := (hb.block b h.lt).trans h
theorem Sept.under (h : Sept T b x0 x1 x2 x3 x4 x5 x6 w) (hb : Below B w w') (hB : b < B) : Sept T b x0 x1 x2 x3 x4 x5 x6 w' := (hb.block b hB).trans h
theorem Sept.alloc (h : Sept T b x0 x1 x2 x3 x4 x5 x6 w) (o : Obj) : Sept T b x0 x1 x2 x3 x4 x5 x6 (w.alloc o) := h.below ((Below.refl _ _).alloc (Nat.le_refl _) _)
theorem Sept.drewN (h : Sept T b x0 x1 x2 x3 x4 x5 x6 w) (n : Nat) : Sept T b x0 x1 x2 x3 x4 x5 x6 (w.drewN n) := h
theorem Sept.drew (h : Sept T b x0 x1 x2 x3 x4 x5 x6 w) : Sept T b x0 x1 x2 x3 x4 x5 x6 w.drew := h
theorem Sept.cells (h : Sept T b x0 x1 x2 x3 x4 x5 x6 w) : w.cell? ⟨b, 0, none⟩ = some x0 ∧ w.cell? ⟨b, 1, none⟩ = some x1 ∧ w.cell? ⟨b, 2, none⟩ = some x2 ∧ w.cell? ⟨b, 3, none⟩ = some x3 ∧ w.cell? ⟨b, 4, none⟩ = some x4 ∧ w.cell? ⟨b, 5, none⟩ = some x5 ∧ w.cell? ⟨b, 6, none⟩ = some x6 := by
  unfold Sept at h
  refine ⟨?_, ?_, ?_, ?_, ?_, ?_, ?_⟩ <;> simp [World.cell?, h]
theorem Sept.frozen (h : Sept T b x0 x1 x2 x3 x4 x5 x6 w) : w.frozen? ⟨b, 0, none⟩ = false ∧ w.frozen? ⟨b, 1, none⟩ = false ∧ w.frozen? ⟨b, 2, none⟩ = false ∧ w.frozen? ⟨b, 3, none⟩ = false ∧ w.frozen? ⟨b, 4, none⟩ = false ∧ w.frozen? ⟨b, 5, none⟩ = false ∧ w.frozen? ⟨b, 6, none⟩ = false :=
  ⟨frozen_of_row w b 0 _ _ h, frozen_of_row w b 1 _ _ h, frozen_of_row w b 2 _ _ h, frozen_of_row w b 3 _ _ h, frozen_of_row w b 4 _ _ h, frozen_of_row w b 5 _ _ h, frozen_of_row w b 6 _ _ h⟩
theorem Sept.set0 (h : Sept T b x0 x1 x2 x3 x4 x5 x6 w) (u : Value) : Sept T b u x1 x2 x3 x4 x5 x6 (w.setCell ⟨b, 0, none⟩ u) := by
  have := heap_setCell_same w b 0 _ _ u h; simpa [Sept] using this
theorem Sept.set1 (h : Sept T b x0 x1 x2 x3 x4 x5 x6 w) (u : Value) : Sept T b x0 u x2 x3 x4 x5 x6 (w.setCell ⟨b, 1, none⟩ u) := by
  have := heap_setCell_same w b 1 _ _ u h; simpa [Sept] using this
theorem Sept.set2 (h : Sept T b x0 x1 x2 x3 x4 x5 x6 w) (u : Value) : Sept T b x0 x1 u x3 x4 x5 x6 (w.setCell ⟨b, 2, none⟩ u) := by
  have := heap_setCell_same w b 2 _ _ u h; simpa [Sept] using this
theorem Sept.set3 (h : Sept T b x0 x1 x2 x3 x4 x5 x6 w) (u : Value) : Sept T b x0 x1 x2 u x4 x5 x6 (w.setCell ⟨b, 3, none⟩ u) := by
  have := heap_setCell_same w b 3 _ _ u h; simpa [Sept] using this
theorem Sept.set4 (h : Sept T b x0 x1 x2 x3 x4 x5 x6 w) (u : Value) : Sept T b x0 x1 x2 x3 u x5 x6 (w.setCell ⟨b, 4, none⟩ u) := by
  have := heap_setCell_same w b 4 _ _ u h; simpa [Sept] using this
theorem Sept.set5 (h : Sept T b x0 x1 x2 x3 x4 x5 x6 w) (u : Value) : Sept T b x0 x1 x2 x3 x4 u x6 (w.setCell ⟨b, 5, none⟩ u) := by
  have := heap_setCell_same w b 5 _ _ u h; simpa [Sept] using this
theorem Sept.set6 (h : Sept T b x0 x1 x2 x3 x4 x5 x6 w) (u : Value) : Sept T b x0 x1 x2 x3 x4 x5 u (w.setCell ⟨b, 6, none⟩ u) := by
  have := heap_setCell_same w b 6 _ _ u h; simpa [Sept] using this
theorem Sept.other (h : Sept T b x0 x1 x2 x3 x4 x5 x6 w) {a : Addr} (u : Value) (hne : b ≠ a.block) : Sept T b x0 x1 x2 x3 x4 x5 x6 (w.setCell a u) := (heap_setCell_other w a b u hne).trans h
end
end Go.Proofs.YtedjclnojocjkaaGreatDoor.Parts
