/-
  A block of cells of the call's own, as a list of values: its cells, what a write makes of it.
  Conditions: none; nothing of the program stands here.
-/
import Derived.Below
import Derived.OneCell
import Derived.Laws.Rows
import Derived.Deep.Draws
namespace Go.Proofs.YtpemjlmopnndbaaDoor.Gen
open Go Go.RowKit

theorem gsize_alloc (w : World) (o : Obj) : (w.alloc o).heap.size = w.heap.size + 1 := by show (w.heap.push o).size = _; simp
theorem gsize_set (w : World) (a : Addr) (v : Value) : (w.setCell a v).heap.size = w.heap.size := by show (w.heap.modify a.block _).size = _; simp
theorem gsize_drew (w : World) : w.drew.heap.size = w.heap.size := rfl
theorem gle_alloc {B : Nat} {w : World} {o : Obj} (h : B ≤ w.heap.size) : B ≤ (w.alloc o).heap.size := by rw [gsize_alloc]; omega
theorem gle_set {B : Nat} {w : World} {a : Addr} {v : Value} (h : B ≤ w.heap.size) : B ≤ (w.setCell a v).heap.size := by rw [gsize_set]; exact h
theorem gle_drewN {B : Nat} {w : World} {n : Nat} (h : B ≤ w.heap.size) : B ≤ (w.drewN n).heap.size := h
theorem gle_drew {B : Nat} {w : World} (h : B ≤ w.heap.size) : B ≤ w.drew.heap.size := h
theorem gbelow_drewN {B : Nat} {a w : World} (h : Below B a w) (n : Nat) : Below B a (w.drewN n) := ⟨h.os, h.tape, h.output, h.size, h.block⟩
/-- Block b holds the cells xs. -/
def Blk (T : TypeId) (b : Nat) (xs : List Value) (w : World) : Prop := w.heap[b]? = some (.cells xs.toArray T (0, 0))
section
variable {T : TypeId} {b B : Nat} {xs : List Value} {w w' : World}
theorem Blk.new (T : TypeId) (xs : List Value) (w : World) : Blk T w.heap.size xs (w.alloc (.cells xs.toArray T)) := by
  show (w.heap.push _)[w.heap.size]? = _
  simp
theorem Blk.lt (h : Blk T b xs w) : b < w.heap.size := (Array.getElem?_eq_some_iff.1 h).1
theorem Blk.below (h : Blk T b xs w) (hb : Below w.heap.size w w') : Blk T b xs w' := (hb.block b h.lt).trans h
theorem Blk.under (h : Blk T b xs w) (hb : Below B w w') (hB : b < B) : Blk T b xs w' := (hb.block b hB).trans h
theorem Blk.alloc (h : Blk T b xs w) (o : Obj) : Blk T b xs (w.alloc o) := h.below ((Below.refl _ _).alloc (Nat.le_refl _) _)
theorem Blk.drewN (h : Blk T b xs w) (n : Nat) : Blk T b xs (w.drewN n) := h
theorem Blk.drew (h : Blk T b xs w) : Blk T b xs w.drew := h
theorem Blk.at (h : Blk T b xs w) {x : Nat} {u : Value} (hx : xs[x]? = some u) : w.cell? ⟨b, x, none⟩ = some u := by
  unfold Blk at h
  simp [World.cell?, h, hx]
theorem Blk.free (h : Blk T b xs w) (x : Nat) : w.frozen? ⟨b, x, none⟩ = false := frozen_of_row w b x _ _ h
theorem Blk.set (h : Blk T b xs w) (x : Nat) (u : Value) : Blk T b (xs.set x u) (w.setCell ⟨b, x, none⟩ u) := by
  have := heap_setCell_same w b x _ _ u h
  unfold Blk
  rw [this]
  simp
theorem Blk.other (h : Blk T b xs w) {a : Addr} (u : Value) (hne : b ≠ a.block) : Blk T b xs (w.setCell a u) := (heap_setCell_other w a b u hne).trans h
end
end Go.Proofs.YtpemjlmopnndbaaDoor.Gen
