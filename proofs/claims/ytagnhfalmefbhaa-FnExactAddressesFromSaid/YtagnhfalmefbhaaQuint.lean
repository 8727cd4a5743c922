/-
  A block of five cells of the call's own: its cells, what a write makes of it.
  Conditions: none; nothing of the program stands here.
-/
import Derived.Below
import Derived.OneCell
import Derived.Laws.Rows
import Derived.Deep.Draws
namespace Go.Proofs.Ytagnhfalmefbhaa.Res
open Go Go.RowKit

/-- Block b holds five cells. -/
def Quint (T : TypeId) (b : Nat) (x0 x1 x2 x3 x4 : Value) (w : World) : Prop := w.heap[b]? = some (.cells #[x0, x1, x2, x3, x4] T (0, 0))
section
variable {T : TypeId} {b B : Nat} {x0 x1 x2 x3 x4 : Value} {w w' : World}
theorem Quint.new (T : TypeId) (x0 x1 x2 x3 x4 : Value) (w : World) : Quint T w.heap.size x0 x1 x2 x3 x4 (w.alloc (.cells #[x0, x1, x2, x3, x4] T)) := by
  show (w.heap.push _)[w.heap.size]? = _
  simp
theorem Quint.lt (h : Quint T b x0 x1 x2 x3 x4 w) : b < w.heap.size := (Array.getElem?_eq_some_iff.1 h).1
theorem Quint.below (h : Quint T b x0 x1 x2 x3 x4 w) (hb : Below w.heap.size w w') : Quint T b x0 x1 x2 x3 x4 w' := (hb.block b h.lt).trans h
theorem Quint.under (h : Quint T b x0 x1 x2 x3 x4 w) (hb : Below B w w') (hB : b < B) : Quint T b x0 x1 x2 x3 x4 w' := (hb.block b hB).trans h
theorem Quint.alloc (h : Quint T b x0 x1 x2 x3 x4 w) (o : Obj) : Quint T b x0 x1 x2 x3 x4 (w.alloc o) := h.below ((Below.refl _ _).alloc (Nat.le_refl _) _)
theorem Quint.drewN (h : Quint T b x0 x1 x2 x3 x4 w) (n : Nat) : Quint T b x0 x1 x2 x3 x4 (w.drewN n) := h
theorem Quint.drew (h : Quint T b x0 x1 x2 x3 x4 w) : Quint T b x0 x1 x2 x3 x4 w.drew := h
theorem Quint.cells (h : Quint T b x0 x1 x2 x3 x4 w) : w.cell? ⟨b, 0, none⟩ = some x0 ∧ w.cell? ⟨b, 1, none⟩ = some x1 ∧ w.cell? ⟨b, 2, none⟩ = some x2 ∧ w.cell? ⟨b, 3, none⟩ = some x3 ∧ w.cell? ⟨b, 4, none⟩ = some x4 := by
  unfold Quint at h
  refine ⟨?_, ?_, ?_, ?_, ?_⟩ <;> simp [World.cell?, h]
theorem Quint.frozen (h : Quint T b x0 x1 x2 x3 x4 w) : w.frozen? ⟨b, 0, none⟩ = false ∧ w.frozen? ⟨b, 1, none⟩ = false ∧ w.frozen? ⟨b, 2, none⟩ = false ∧ w.frozen? ⟨b, 3, none⟩ = false ∧ w.frozen? ⟨b, 4, none⟩ = false :=
  ⟨frozen_of_row w b 0 _ _ h, frozen_of_row w b 1 _ _ h, frozen_of_row w b 2 _ _ h, frozen_of_row w b 3 _ _ h, frozen_of_row w b 4 _ _ h⟩
theorem Quint.set0 (h : Quint T b x0 x1 x2 x3 x4 w) (u : Value) : Quint T b u x1 x2 x3 x4 (w.setCell ⟨b, 0, none⟩ u) := by
  have := heap_setCell_same w b 0 _ _ u h; simpa [Quint] using this
theorem Quint.set1 (h : Quint T b x0 x1 x2 x3 x4 w) (u : Value) : Quint T b x0 u x2 x3 x4 (w.setCell ⟨b, 1, none⟩ u) := by
  have := heap_setCell_same w b 1 _ _ u h; simpa [Quint] using this
theorem Quint.set2 (h : Quint T b x0 x1 x2 x3 x4 w) (u : Value) : Quint T b x0 x1 u x3 x4 (w.setCell ⟨b, 2, none⟩ u) := by
  have := heap_setCell_same w b 2 _ _ u h; simpa [Quint] using this
theorem Quint.set3 (h : Quint T b x0 x1 x2 x3 x4 w) (u : Value) : Quint T b x0 x1 x2 u x4 (w.setCell ⟨b, 3, none⟩ u) := by
  have := heap_setCell_same w b 3 _ _ u h; simpa [Quint] using this
theorem Quint.set4 (h : Quint T b x0 x1 x2 x3 x4 w) (u : Value) : Quint T b x0 x1 x2 x3 u (w.setCell ⟨b, 4, none⟩ u) := by
  have := heap_setCell_same w b 4 _ _ u h; simpa [Quint] using this
theorem Quint.other (h : Quint T b x0 x1 x2 x3 x4 w) {a : Addr} (u : Value) (hne : b ≠ a.block) : Quint T b x0 x1 x2 x3 x4 (w.setCell a u) := (heap_setCell_other w a b u hne).trans h
theorem ten {T' : TypeId} {b' : Nat} {y0 y1 y2 y3 y4 : Value} (h : Quint T b x0 x1 x2 x3 x4 w) (k : Quint T' b' y0 y1 y2 y3 y4 w) :
    w.cell? ⟨b, 0, none⟩ = some x0 ∧ w.cell? ⟨b, 1, none⟩ = some x1 ∧ w.cell? ⟨b, 2, none⟩ = some x2 ∧ w.cell? ⟨b, 3, none⟩ = some x3 ∧ w.cell? ⟨b, 4, none⟩ = some x4 ∧
    w.cell? ⟨b', 0, none⟩ = some y0 ∧ w.cell? ⟨b', 1, none⟩ = some y1 ∧ w.cell? ⟨b', 2, none⟩ = some y2 ∧ w.cell? ⟨b', 3, none⟩ = some y3 ∧ w.cell? ⟨b', 4, none⟩ = some y4 :=
  ⟨h.cells.1, h.cells.2.1, h.cells.2.2.1, h.cells.2.2.2.1, h.cells.2.2.2.2, k.cells⟩
end
end Go.Proofs.Ytagnhfalmefbhaa.Res
