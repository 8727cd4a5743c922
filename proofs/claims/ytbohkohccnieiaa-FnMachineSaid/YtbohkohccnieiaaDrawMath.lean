/-
  Plain facts on a world in which one block alone changes, and on the block of a cursor over bytes.
  Conditions: none; nothing of the program stands here.
-/
import Derived.Below
import Derived.OneCell
import Derived.Laws.Rows
import Derived.Laws.Bits128
import Derived.Deep.Draws
namespace Go.Proofs.Ytbohkohccnieiaa.Draw
open Go Go.RowKit

theorem and255 (n : Int) : bits .and .i64 n 255 = n % 256 := by
  have h255 : (BitVec.ofInt 64 255).toNat = 2 ^ 8 - 1 := by decide
  have key : (BitVec.ofInt 64 n &&& BitVec.ofInt 64 255).toNat = (n % ((2 ^ 64 : Nat) : Int)).toNat % 2 ^ 8 := by
    rw [BitVec.toNat_and, BitVec.toNat_ofInt, h255, Nat.and_two_pow_sub_one_eq_mod]
  show IntKind.i64.wrap ((BitVec.ofInt 64 n &&& BitVec.ofInt 64 255).toNat : Nat) = n % 256
  rw [key, IntKind.wrap_i64]
  omega

/-- Of what was in memory, block p alone may have changed. -/
structure Only (p : Nat) (w w' : World) : Prop where
  os : w'.os = w.os
  tape : w'.tape = w.tape
  output : w'.output = w.output
  size : w.heap.size ≤ w'.heap.size
  block : ∀ k, k < w.heap.size → k ≠ p → w'.heap[k]? = w.heap[k]?

theorem Only.refl (p : Nat) (w : World) : Only p w w := ⟨rfl, rfl, rfl, Nat.le_refl _, fun _ _ _ => rfl⟩
theorem Only.trans {p : Nat} {a b c : World} (h : Only p a b) (k : Only p b c) : Only p a c :=
  ⟨k.os.trans h.os, k.tape.trans h.tape, k.output.trans h.output, Nat.le_trans h.size k.size, fun i hi hp => (k.block i (Nat.lt_of_lt_of_le hi h.size) hp).trans (h.block i hi hp)⟩
theorem Only.of_below {p : Nat} {w w' : World} (h : Below w.heap.size w w') : Only p w w' := ⟨h.os, h.tape, h.output, h.size, fun k hk _ => h.block k hk⟩
theorem Only.below {p B : Nat} {w w' : World} (h : Only p w w') (hB : B ≤ p) (hw : B ≤ w.heap.size) : Below B w w' :=
  ⟨h.os, h.tape, h.output, h.size, fun k hk => h.block k (by omega) (by omega)⟩
theorem Only.setCell {p : Nat} {w w' : World} (h : Only p w w') (o : Nat) (v : Value) : Only p w (w'.setCell ⟨p, o, none⟩ v) :=
  ⟨h.os, h.tape, h.output, by show w.heap.size ≤ (w'.heap.modify p _).size; rw [Array.size_modify]; exact h.size, fun k hk hp => (heap_setCell_other w' _ k v hp).trans (h.block k hk hp)⟩
theorem Only.drewN {p : Nat} {w w' : World} (h : Only p w w') (n : Nat) : Only p w (w'.drewN n) := ⟨h.os, h.tape, h.output, h.size, h.block⟩
theorem Only.alloc {p : Nat} {w w' : World} (h : Only p w w') (o : Obj) : Only p w (w'.alloc o) := h.trans (Only.of_below ((Below.refl _ _).alloc (Nat.le_refl _) _))
theorem Only.heap {p : Nat} {w w' : World} (h : Only p w w') {k : Nat} {o : Obj} (hk : w.heap[k]? = some o) (hp : k ≠ p) : w'.heap[k]? = some o := by rw [h.block k (lt_of_block hk) hp]; exact hk
theorem cell_lt {w : World} {b o : Nat} {v : Value} (h : w.cell? ⟨b, o, none⟩ = some v) : b < w.heap.size := by
  unfold World.cell? at h
  simp only at h
  cases hx : w.heap[b]? with
  | none => rw [hx] at h; simp at h
  | some x => exact (Array.getElem?_eq_some_iff.1 hx).1
theorem cell_of_heap {w w' : World} {b o : Nat} (h : w'.heap[b]? = w.heap[b]?) : w'.cell? ⟨b, o, none⟩ = w.cell? ⟨b, o, none⟩ := by
  unfold World.cell?; simp only; rw [h]
theorem Only.cell {p : Nat} {w w' : World} (h : Only p w w') {b o : Nat} {v : Value} (hc : w.cell? ⟨b, o, none⟩ = some v) (hp : b ≠ p) : w'.cell? ⟨b, o, none⟩ = some v := by
  rw [cell_of_heap (h.block b (cell_lt hc) hp)]; exact hc

/-- A slice of bytes that lies below block B, or is nil. -/
def Bytes (B : Nat) (w : World) (a : Option Addr) (n : Nat) : Prop :=
  n ≤ 9223372036854775807 ∧ ∀ j, j < n → ∃ b off x : Nat, a = some ⟨b, off, none⟩ ∧ b < B ∧ x < 256 ∧ w.cell? ⟨b, off + j, none⟩ = some (.int .u8 x)

theorem Bytes.on {B p : Nat} {w w' : World} {a : Option Addr} {n : Nat} (h : Bytes B w a n) (ho : Only p w w') (hB : B ≤ p) : Bytes B w' a n :=
  ⟨h.1, fun j hj => by
    obtain ⟨b, off, x, ha, hb, hx, hc⟩ := h.2 j hj
    exact ⟨b, off, x, ha, hb, hx, ho.cell hc (by omega)⟩⟩

theorem Bytes.below {B : Nat} {w w' : World} {a : Option Addr} {n : Nat} (h : Bytes B w a n) (hb : Below w.heap.size w w') : Bytes B w' a n :=
  ⟨h.1, fun j hj => by
    obtain ⟨b, off, x, ha, hB, hx, hc⟩ := h.2 j hj
    exact ⟨b, off, x, ha, hB, hx, by rw [cell_of_heap (hb.block b (cell_lt hc))]; exact hc⟩⟩
theorem World.block_alloc_here (w : World) (o : Obj) : (w.alloc o).heap[w.heap.size]? = some o := by
  show (w.heap.push o)[w.heap.size]? = _
  simp

/-- Block p is a cursor, of type T, over bytes that lie below block B. -/
def Cur (T B p : Nat) (w : World) : Prop := B ≤ p ∧ ∃ (a : Option Addr) (n c i : Nat) (h : Int), w.heap[p]? = some (.cells #[.slice a n c, .int .i64 i, .int .i64 h] T (0, 0)) ∧ i ≤ n ∧ Bytes B w a n

theorem Cur.on {T B p q : Nat} {w w' : World} (h : Cur T B p w) (ho : Only q w w') (hq : p ≠ q) (hB : B ≤ q) : Cur T B p w' := by
  obtain ⟨hp, a, n, c, i, hh, hb, hi, hby⟩ := h
  exact ⟨hp, a, n, c, i, hh, ho.heap hb hq, hi, hby.on ho hB⟩
theorem Cur.below {T B p : Nat} {w w' : World} (h : Cur T B p w) (hb : Below w.heap.size w w') : Cur T B p w' := by
  obtain ⟨hp, a, n, c, i, hh, hb0, hi, hby⟩ := h
  have hlt := lt_of_block hb0
  exact ⟨hp, a, n, c, i, hh, by rw [hb.block p hlt]; exact hb0, hi, ⟨hby.1, fun j hj => by
    obtain ⟨b, off, x, ha, hbB, hx, hc⟩ := hby.2 j hj
    exact ⟨b, off, x, ha, hbB, hx, by rw [cell_of_heap (hb.block b (cell_lt hc))]; exact hc⟩⟩⟩
theorem Cur.lt {T B p : Nat} {w : World} (h : Cur T B p w) : p < w.heap.size := by
  obtain ⟨_, a, n, c, i, hh, hb0, _⟩ := h; exact lt_of_block hb0

/-- What a call hands back: a number from 0 to n - 1; a truth value; a number of an int. -/
def IsNat (n : Nat) (e : Ending) : Prop := ∃ x : Nat, x < n ∧ e = .returned (.int .i64 x)
def IsBool (e : Ending) : Prop := ∃ b : Bool, e = .returned (.bool b)
def IsInt (e : Ending) : Prop := ∃ x : Int, -9223372036854775808 ≤ x ∧ x ≤ 9223372036854775807 ∧ e = .returned (.int .i64 x)
theorem isNat_mod (z : Int) : IsNat 256 (.returned (.int .i64 (z % 256))) := ⟨(z % 256).toNat, by omega, by congr 2; omega⟩
theorem isNat_emod (z n : Int) (h : 0 < n) : IsNat n.toNat (.returned (.int .i64 (z % n))) := by
  have h0 := Int.emod_nonneg z (b := n) (by omega)
  have h1 := Int.emod_lt_of_pos z h
  exact ⟨(z % n).toNat, by omega, by congr 2; omega⟩
def IsOf (zs : List Int) (e : Ending) : Prop := ∃ z, z ∈ zs ∧ e = .returned (.int .i64 z)
def IsText (zs : List ByteArray) (e : Ending) : Prop := ∃ z, z ∈ zs ∧ e = .returned (.string z)
def small (z : Int) : Bool := decide (-9223372036854775808 ≤ z ∧ z ≤ 9223372036854775807)
theorem isInt_of {zs : List Int} {z : Int} (hz : z ∈ zs) (h : zs.all small = true) : IsInt (.returned (.int .i64 z)) := by
  have := List.all_eq_true.1 h z hz
  unfold small at this
  simp at this
  exact ⟨z, this.1, this.2, rfl⟩
theorem isInt_mk {z : Int} (h0 : -9223372036854775808 ≤ z) (h1 : z ≤ 9223372036854775807) : IsInt (.returned (.int .i64 z)) := ⟨z, h0, h1, rfl⟩
def IsInts (e : Ending) : Prop := ∃ x y : Int, -9223372036854775808 ≤ x ∧ x ≤ 9223372036854775807 ∧ -9223372036854775808 ≤ y ∧ y ≤ 9223372036854775807 ∧ e = .returned (.tuple #[.int .i64 x, .int .i64 y])
def IsShort (e : Ending) : Prop := ∃ s : ByteArray, s.size ≤ 20 ∧ e = .returned (.string s)
theorem isShort_of {l : List UInt8} (h : l.length ≤ 20) : IsShort (.returned (.string ⟨l.toArray⟩)) := ⟨_, by show l.toArray.size ≤ 20; simpa using h, rfl⟩
theorem isShort_in {zs : List ByteArray} {s : ByteArray} (hs : s ∈ zs) (h : (zs.all fun z => decide (z.size ≤ 20)) = true) : IsShort (.returned (.string s)) := ⟨s, by simpa using List.all_eq_true.1 h s hs, rfl⟩
def natty (n : Nat) (z : Int) : Bool := decide (0 ≤ z ∧ z < n)
theorem isNat_of {n : Nat} {zs : List Int} {z : Int} (hz : z ∈ zs) (h : zs.all (natty n) = true) : IsNat n (.returned (.int .i64 z)) := by
  have := List.all_eq_true.1 h z hz
  unfold natty at this
  simp at this
  exact ⟨z.toNat, by omega, by congr 2; omega⟩
theorem prod_small (y z : Nat) (hy : y < (1000000 : Int).toNat) (hz : z < (1000000 : Int).toNat) : 0 ≤ (y : Int) * (z : Int) ∧ (y : Int) * (z : Int) ≤ 1000000000000 := by
  have h1 : y ≤ 1000000 := by have : y < 1000000 := hy; omega
  have h2 : z ≤ 1000000 := by have : z < 1000000 := hz; omega
  have h3 : y * z ≤ 1000000 * 1000000 := Nat.mul_le_mul h1 h2
  have h4 : (y : Int) * (z : Int) = ((y * z : Nat) : Int) := by simp
  omega
end Go.Proofs.Ytbohkohccnieiaa.Draw
