/-
  Plain facts on a world in which one block alone changes, and on the block of a cursor over bytes. The cursor over the bytes of a draw: it is made, read and turned; each call hands back some number in its range. The draw of a truth value: once in n. Rows of the call's own beside a cursor that moves.
  Conditions: as each theorem states them.
-/
import Derived.Below
import Derived.OneCell
import Derived.Laws.Rows
import Derived.Laws.Bits128
import Derived.Deep.Draws
import Derived.Test.YtagnhfalmefbhaaProg
import Derived.WalkKit
import Derived.Outline
import Derived.BigQuiet
import Derived.Deep.QuietTactic
import Derived.OwnWalk
import Derived.Laws.IdiomStrings
import Derived.Test.YtagnhfalmefbhaaMem
namespace Go.Proofs.Ytagnhfalmefbhaa.Draw
open Go Go.RowKit

theorem and255 (n : Int) : bits .and .i64 n 255 = n % 256 := by
  have h255 : (BitVec.ofInt 64 255).toNat = 2 ^ 8 - 1 := by decide
  have key : (BitVec.ofInt 64 n &&& BitVec.ofInt 64 255).toNat = (n % ((2 ^ 64 : Nat) : Int)).toNat % 2 ^ 8 := by
    rw [BitVec.toNat_and, BitVec.toNat_ofInt, h255, Nat.and_two_pow_sub_one_eq_mod]
  show IntKind.i64.wrap ((BitVec.ofInt 64 n &&& BitVec.ofInt 64 255).toNat : Nat) = n % 256
  rw [key, IntKind.wrap_i64]
  omega

/-- Of what was in memory, block p alone may have changed. -/
structure Only (p : Nat) (w w' : World) : Prop where
  os : w'.os = w.os
  tape : w'.tape = w.tape
  output : w'.output = w.output
  size : w.heap.size ≤ w'.heap.size
  block : ∀ k, k < w.heap.size → k ≠ p → w'.heap[k]? = w.heap[k]?

theorem Only.refl (p : Nat) (w : World) : Only p w w := ⟨rfl, rfl, rfl, Nat.le_refl _, fun _ _ _ => rfl⟩
theorem Only.trans {p : Nat} {a b c : World} (h : Only p a b) (k : Only p b c) : Only p a c :=
  ⟨k.os.trans h.os, k.tape.trans h.tape, k.output.trans h.output, Nat.le_trans h.size k.size, fun i hi hp => (k.block i (Nat.lt_of_lt_of_le hi h.size) hp).trans (h.block i hi hp)⟩
theorem Only.of_below {p : Nat} {w w' : World} (h : Below w.heap.size w w') : Only p w w' := ⟨h.os, h.tape, h.output, h.size, fun k hk _ => h.block k hk⟩
theorem Only.below {p B : Nat} {w w' : World} (h : Only p w w') (hB : B ≤ p) (hw : B ≤ w.heap.size) : Below B w w' :=
  ⟨h.os, h.tape, h.output, h.size, fun k hk => h.block k (by omega) (by omega)⟩
theorem Only.setCell {p : Nat} {w w' : World} (h : Only p w w') (o : Nat) (v : Value) : Only p w (w'.setCell ⟨p, o, none⟩ v) :=
  ⟨h.os, h.tape, h.output, by show w.heap.size ≤ (w'.heap.modify p _).size; rw [Array.size_modify]; exact h.size, fun k hk hp => (heap_setCell_other w' _ k v hp).trans (h.block k hk hp)⟩
theorem Only.drewN {p : Nat} {w w' : World} (h : Only p w w') (n : Nat) : Only p w (w'.drewN n) := ⟨h.os, h.tape, h.output, h.size, h.block⟩
theorem Only.alloc {p : Nat} {w w' : World} (h : Only p w w') (o : Obj) : Only p w (w'.alloc o) := h.trans (Only.of_below ((Below.refl _ _).alloc (Nat.le_refl _) _))
theorem Only.heap {p : Nat} {w w' : World} (h : Only p w w') {k : Nat} {o : Obj} (hk : w.heap[k]? = some o) (hp : k ≠ p) : w'.heap[k]? = some o := by rw [h.block k (lt_of_block hk) hp]; exact hk
theorem cell_lt {w : World} {b o : Nat} {v : Value} (h : w.cell? ⟨b, o, none⟩ = some v) : b < w.heap.size := by
  unfold World.cell? at h
  simp only at h
  cases hx : w.heap[b]? with
  | none => rw [hx] at h; simp at h
  | some x => exact (Array.getElem?_eq_some_iff.1 hx).1
theorem cell_of_heap {w w' : World} {b o : Nat} (h : w'.heap[b]? = w.heap[b]?) : w'.cell? ⟨b, o, none⟩ = w.cell? ⟨b, o, none⟩ := by
  unfold World.cell?; simp only; rw [h]
theorem Only.cell {p : Nat} {w w' : World} (h : Only p w w') {b o : Nat} {v : Value} (hc : w.cell? ⟨b, o, none⟩ = some v) (hp : b ≠ p) : w'.cell? ⟨b, o, none⟩ = some v := by
  rw [cell_of_heap (h.block b (cell_lt hc) hp)]; exact hc

/-- A slice of bytes that lies below block B, or is nil. -/
def Bytes (B : Nat) (w : World) (a : Option Addr) (n : Nat) : Prop :=
  n ≤ 9223372036854775807 ∧ ∀ j, j < n → ∃ b off x : Nat, a = some ⟨b, off, none⟩ ∧ b < B ∧ x < 256 ∧ w.cell? ⟨b, off + j, none⟩ = some (.int .u8 x)

theorem Bytes.on {B p : Nat} {w w' : World} {a : Option Addr} {n : Nat} (h : Bytes B w a n) (ho : Only p w w') (hB : B ≤ p) : Bytes B w' a n :=
  ⟨h.1, fun j hj => by
    obtain ⟨b, off, x, ha, hb, hx, hc⟩ := h.2 j hj
    exact ⟨b, off, x, ha, hb, hx, ho.cell hc (by omega)⟩⟩

theorem Bytes.below {B : Nat} {w w' : World} {a : Option Addr} {n : Nat} (h : Bytes B w a n) (hb : Below w.heap.size w w') : Bytes B w' a n :=
  ⟨h.1, fun j hj => by
    obtain ⟨b, off, x, ha, hB, hx, hc⟩ := h.2 j hj
    exact ⟨b, off, x, ha, hB, hx, by rw [cell_of_heap (hb.block b (cell_lt hc))]; exact hc⟩⟩
theorem World.block_alloc_here (w : World) (o : Obj) : (w.alloc o).heap[w.heap.size]? = some o := by
  show (w.heap.push o)[w.heap.size]? = _
  simp

/-- Block p is a cursor, of type T, over bytes that lie below block B. -/
def Cur (T B p : Nat) (w : World) : Prop := B ≤ p ∧ ∃ (a : Option Addr) (n c i : Nat) (h : Int), w.heap[p]? = some (.cells #[.slice a n c, .int .i64 i, .int .i64 h] T (0, 0)) ∧ i ≤ n ∧ Bytes B w a n

theorem Cur.on {T B p q : Nat} {w w' : World} (h : Cur T B p w) (ho : Only q w w') (hq : p ≠ q) (hB : B ≤ q) : Cur T B p w' := by
  obtain ⟨hp, a, n, c, i, hh, hb, hi, hby⟩ := h
  exact ⟨hp, a, n, c, i, hh, ho.heap hb hq, hi, hby.on ho hB⟩
theorem Cur.below {T B p : Nat} {w w' : World} (h : Cur T B p w) (hb : Below w.heap.size w w') : Cur T B p w' := by
  obtain ⟨hp, a, n, c, i, hh, hb0, hi, hby⟩ := h
  have hlt := lt_of_block hb0
  exact ⟨hp, a, n, c, i, hh, by rw [hb.block p hlt]; exact hb0, hi, ⟨hby.1, fun j hj => by
    obtain ⟨b, off, x, ha, hbB, hx, hc⟩ := hby.2 j hj
    exact ⟨b, off, x, ha, hbB, hx, by rw [cell_of_heap (hb.block b (cell_lt hc))]; exact hc⟩⟩⟩
theorem Cur.lt {T B p : Nat} {w : World} (h : Cur T B p w) : p < w.heap.size := by
  obtain ⟨_, a, n, c, i, hh, hb0, _⟩ := h; exact lt_of_block hb0

/-- What a call hands back: a number from 0 to n - 1; a truth value; a number of an int. -/
def IsNat (n : Nat) (e : Ending) : Prop := ∃ x : Nat, x < n ∧ e = .returned (.int .i64 x)
def IsBool (e : Ending) : Prop := ∃ b : Bool, e = .returned (.bool b)
def IsInt (e : Ending) : Prop := ∃ x : Int, -9223372036854775808 ≤ x ∧ x ≤ 9223372036854775807 ∧ e = .returned (.int .i64 x)
theorem isNat_mod (z : Int) : IsNat 256 (.returned (.int .i64 (z % 256))) := ⟨(z % 256).toNat, by omega, by congr 2; omega⟩
theorem isNat_emod (z n : Int) (h : 0 < n) : IsNat n.toNat (.returned (.int .i64 (z % n))) := by
  have h0 := Int.emod_nonneg z (b := n) (by omega)
  have h1 := Int.emod_lt_of_pos z h
  exact ⟨(z % n).toNat, by omega, by congr 2; omega⟩
def IsOf (zs : List Int) (e : Ending) : Prop := ∃ z, z ∈ zs ∧ e = .returned (.int .i64 z)
def IsText (zs : List ByteArray) (e : Ending) : Prop := ∃ z, z ∈ zs ∧ e = .returned (.string z)
def small (z : Int) : Bool := decide (-9223372036854775808 ≤ z ∧ z ≤ 9223372036854775807)
theorem isInt_of {zs : List Int} {z : Int} (hz : z ∈ zs) (h : zs.all small = true) : IsInt (.returned (.int .i64 z)) := by
  have := List.all_eq_true.1 h z hz
  unfold small at this
  simp at this
  exact ⟨z, this.1, this.2, rfl⟩
theorem isInt_mk {z : Int} (h0 : -9223372036854775808 ≤ z) (h1 : z ≤ 9223372036854775807) : IsInt (.returned (.int .i64 z)) := ⟨z, h0, h1, rfl⟩
def IsInts (e : Ending) : Prop := ∃ x y : Int, -9223372036854775808 ≤ x ∧ x ≤ 9223372036854775807 ∧ -9223372036854775808 ≤ y ∧ y ≤ 9223372036854775807 ∧ e = .returned (.tuple #[.int .i64 x, .int .i64 y])
def IsShort (e : Ending) : Prop := ∃ s : ByteArray, s.size ≤ 20 ∧ e = .returned (.string s)
theorem isShort_of {l : List UInt8} (h : l.length ≤ 20) : IsShort (.returned (.string ⟨l.toArray⟩)) := ⟨_, by show l.toArray.size ≤ 20; simpa using h, rfl⟩
theorem isShort_in {zs : List ByteArray} {s : ByteArray} (hs : s ∈ zs) (h : (zs.all fun z => decide (z.size ≤ 20)) = true) : IsShort (.returned (.string s)) := ⟨s, by simpa using List.all_eq_true.1 h s hs, rfl⟩
def natty (n : Nat) (z : Int) : Bool := decide (0 ≤ z ∧ z < n)
theorem isNat_of {n : Nat} {zs : List Int} {z : Int} (hz : z ∈ zs) (h : zs.all (natty n) = true) : IsNat n (.returned (.int .i64 z)) := by
  have := List.all_eq_true.1 h z hz
  unfold natty at this
  simp at this
  exact ⟨z.toNat, by omega, by congr 2; omega⟩
theorem prod_small (y z : Nat) (hy : y < (1000000 : Int).toNat) (hz : z < (1000000 : Int).toNat) : 0 ≤ (y : Int) * (z : Int) ∧ (y : Int) * (z : Int) ≤ 1000000000000 := by
  have h1 : y ≤ 1000000 := by have : y < 1000000 := hy; omega
  have h2 : z ≤ 1000000 := by have : z < 1000000 := hz; omega
  have h3 : y * z ≤ 1000000 * 1000000 := Nat.mul_le_mul h1 h2
  have h4 : (y : Int) * (z : Int) = ((y * z : Nat) : Int) := by simp
  omega
end Go.Proofs.Ytagnhfalmefbhaa.Draw
namespace Go.Proofs.Ytagnhfalmefbhaa.Draw
open Go Go.RowKit

set_option maxRecDepth 100000 in
theorem new_any (B : Nat) (a : Option Addr) (n c : Nat) (w : World) (hb : Bytes B w a n) (hB : B ≤ w.heap.size) :
    Calls Try.prog 31 #[.slice a n c] w fun e w' => e = .returned (.pointer (some ⟨w.heap.size, 0, none⟩)) ∧ Cur 97 B w.heap.size w' ∧ Below w.heap.size w w' := by
  have hn := hb.1
  go_enter Try.func31, Try.ntmps31
  go_wp2
  go_loop [3, 4] (fun h i => ∃ (k : Nat) (x : Int), k ≤ n ∧ i = .int .i64 k ∧ h = .int .i64 x) (fun _ i => n - (intOf i).toNat)
  case atStart => exact ⟨0, _, Nat.zero_le _, rfl, rfl⟩
  case round =>
    obtain ⟨k, x, hk, rfl, rfl⟩ := hrel
    by_cases hlt : k < n
    · by_cases h4 : k < 4000
      · obtain ⟨b, off, y, rfl, _hbB, hy, hc⟩ := hb.2 k hlt
        go_wp2
        go_round
        case rel => exact ⟨k + 1, _, by omega, by go_num, rfl⟩
        case measure => simp [intOf]; omega
      · have h4' : decide ((k : Int) < 4000) = false := by simp; omega
        go_wp2
        go_ret
        exact ⟨rfl, ⟨hB, _, _, _, 0, _, World.block_alloc_here _ _, Nat.zero_le _, hb.below ((Below.refl _ _).alloc (Nat.le_refl _) _) ⟩, (Below.refl _ _).alloc (Nat.le_refl _) _⟩
    · have hd : decide ((k : Int) < (n : Int)) = false := by simp; omega
      go_wp2
      go_ret
      exact ⟨rfl, ⟨hB, _, _, _, 0, _, World.block_alloc_here _ _, Nat.zero_le _, hb.below ((Below.refl _ _).alloc (Nat.le_refl _) _) ⟩, (Below.refl _ _).alloc (Nat.le_refl _) _⟩

set_option maxRecDepth 100000 in
theorem byte_any (B p : Nat) (w : World) (hc : Cur 97 B p w) :
    Calls Try.prog 89 #[.pointer (some ⟨p, 0, none⟩)] w fun e w' => IsNat 256 e ∧ Cur 97 B p w' ∧ Only p w w' := by
  obtain ⟨hBp, a, n, c, i, h, hb, hi, hby⟩ := hc
  have c0 : w.cell? ⟨p, 0, none⟩ = some (.slice a n c) := by simp [World.cell?, hb]
  have c1 : w.cell? ⟨p, 1, none⟩ = some (.int .i64 i) := by simp [World.cell?, hb]
  have c2 : w.cell? ⟨p, 2, none⟩ = some (.int .i64 h) := by simp [World.cell?, hb]
  have f0 := frozen_of_row w p 0 _ _ hb
  have f1 := frozen_of_row w p 1 _ _ hb
  have f2 := frozen_of_row w p 2 _ _ hb
  have hn := hby.1
  have ha := and255
  by_cases hin : i < n
  · obtain ⟨b, off, y, rfl, hbB, hy, hcb⟩ := hby.2 i hin
    have hne : ¬ b = p := by omega
    go_enter Try.func89, Try.ntmps89
    go_wp2
    go_quiet (fail)
    go_wp2
    go_quiet (fail)
    go_wp2
    go_quiet (fail)
    go_wp2
    go_ret
    exact ⟨isNat_mod _, ⟨hBp, _, _, _, i + 1, _, heap_setCell_same _ p 1 _ _ _ (heap_setCell_same w p 2 _ _ _ hb), by omega, hby.on (by repeat (first | exact Only.refl _ _ | apply Only.drewN | apply Only.setCell)) hBp⟩, by repeat (first | exact Only.refl _ _ | apply Only.drewN | apply Only.setCell)⟩
  · go_enter Try.func89, Try.ntmps89
    go_wp2
    go_quiet (fail)
    go_wp2
    go_quiet (fail)
    go_wp2
    go_ret
    exact ⟨isNat_mod _, ⟨hBp, _, _, _, i, _, heap_setCell_same w p 2 _ _ _ hb, hi, hby.on (by repeat (first | exact Only.refl _ _ | apply Only.drewN | apply Only.setCell)) hBp⟩, by repeat (first | exact Only.refl _ _ | apply Only.drewN | apply Only.setCell)⟩
set_option maxRecDepth 100000 in
theorem below_small (B p : Nat) (n : Int) (w : World) (hc : Cur 97 B p w) (h0 : 0 < n) (h1 : n ≤ 256) :
    Calls Try.prog 65 #[.pointer (some ⟨p, 0, none⟩), .int .i64 n] w fun e w' => IsNat n.toNat e ∧ Cur 97 B p w' ∧ Only p w w' := by
  go_enter Try.func65, Try.ntmps65
  go_wp2_with (go_at_call 89; refine (byte_any B p _ hc).mono ?_; rintro e w1 ⟨⟨x, hx, rfl⟩, hc1, ho1⟩)
  go_ret
  exact ⟨isNat_emod _ _ h0, hc1, ho1⟩

set_option maxRecDepth 100000 in
theorem below_great (B p : Nat) (n : Int) (w : World) (hc : Cur 97 B p w) (h0 : 256 < n) (h1 : n ≤ 9223372036854775807) :
    Calls Try.prog 65 #[.pointer (some ⟨p, 0, none⟩), .int .i64 n] w fun e w' => IsNat n.toNat e ∧ Cur 97 B p w' ∧ Only p w w' := by
  go_enter Try.func65, Try.ntmps65
  go_wp2_with (go_at_call 89; refine (byte_any B p _ hc).mono ?_; rintro e w1 ⟨⟨x, hx, rfl⟩, hc1, ho1⟩)
  go_wp2_with (go_at_call 89; refine (byte_any B p _ hc1).mono ?_; rintro e w2 ⟨⟨y, hy, rfl⟩, hc2, ho2⟩)
  go_wp2_with (go_at_call 89; refine (byte_any B p _ hc2).mono ?_; rintro e w3 ⟨⟨z, hz, rfl⟩, hc3, ho3⟩)
  go_ret
  exact ⟨isNat_emod _ _ (by omega), hc3, (ho1.trans ho2).trans ho3⟩

/-- A number below n, where n is above 0. -/
theorem below_any (B p : Nat) (n : Int) (w : World) (hc : Cur 97 B p w) (h0 : 0 < n) (h1 : n ≤ 9223372036854775807) :
    Calls Try.prog 65 #[.pointer (some ⟨p, 0, none⟩), .int .i64 n] w fun e w' => IsNat n.toNat e ∧ Cur 97 B p w' ∧ Only p w w' := by
  by_cases h : n ≤ 256
  · exact below_small B p n w hc h0 h
  · exact below_great B p n w hc (by omega) h1

set_option maxRecDepth 100000 in
theorem below_none (p : Nat) (n : Int) (w : World) (h0 : n ≤ 0) :
    Calls Try.prog 65 #[.pointer (some ⟨p, 0, none⟩), .int .i64 n] w fun e w' => e = .returned (.int .i64 0) ∧ w = w' := by
  go_enter Try.func65, Try.ntmps65
  go_wp2_with fail
  go_ret
  exact ⟨rfl, rfl⟩

set_option maxRecDepth 100000 in
theorem int_any (B p q c : Nat) (zs : List Int) (w : World) (hc : Cur 97 B p w) (hq : q ≠ p) (hz : ∀ j (h : j < zs.length), w.cell? ⟨q, j, none⟩ = some (.int .i64 zs[j])) (h0 : 0 < zs.length) (h1 : zs.length ≤ 1000) :
    Calls Try.prog 34 #[.pointer (some ⟨p, 0, none⟩), .slice (some ⟨q, 0, none⟩) zs.length c] w fun e w' => IsOf zs e ∧ Cur 97 B p w' ∧ Only p w w' := by
  go_enter Try.func34, Try.ntmps34
  go_wp2_with (go_at_call 65; refine (below_any B p zs.length _ hc (by omega) (by omega)).mono ?_; rintro e w1 ⟨⟨x, hx, rfl⟩, hc1, ho1⟩; have hx' : x < zs.length := (by omega); have hcell : w1.cell? ⟨q, x, none⟩ = some (.int .i64 zs[x]) := ho1.cell (hz x hx') hq)
  go_ret
  exact ⟨⟨zs[x], List.getElem_mem _, rfl⟩, hc1, ho1⟩

/-- The same over a list that the call has just made. -/
theorem int_new (B p : Nat) (zs : List Int) (w : World) (C : Array Value) (E : TypeId) (hC : C = (zs.map (Value.int .i64)).toArray) (n c : Nat) (hn : n = zs.length) (hc : Cur 97 B p w) (h0 : 0 < zs.length) (h1 : zs.length ≤ 1000) :
    Calls Try.prog 34 #[.pointer (some ⟨p, 0, none⟩), .slice (some ⟨w.heap.size, 0, none⟩) n c] (w.alloc (.cells C E)) fun e w' => IsOf zs e ∧ Cur 97 B p w' ∧ Only p w w' := by
  subst hn hC
  refine (int_any B p w.heap.size c zs _ (hc.below ((Below.refl _ _).alloc (Nat.le_refl _) _)) (by have := hc.lt; omega) (fun j hj => ?_) h0 h1).mono ?_
  · rw [World.cell?_alloc_mark w _ E (0, 0) j]; simp [hj]
  · rintro e w' ⟨he, hc', ho⟩; exact ⟨he, hc', ((Only.refl p w).alloc _).trans ho⟩
end Go.Proofs.Ytagnhfalmefbhaa.Draw
namespace Go.Proofs.Ytagnhfalmefbhaa.Draw
open Go Go.RowKit

set_option maxRecDepth 100000 in
theorem once_any (B p : Nat) (n : Int) (w : World) (hc : Cur 97 B p w) (h0 : 0 < n) (h1 : n ≤ 9223372036854775807) :
    Calls Try.prog 91 #[.pointer (some ⟨p, 0, none⟩), .int .i64 n] w fun e w' => IsBool e ∧ Cur 97 B p w' ∧ Only p w w' := by
  go_enter Try.func91, Try.ntmps91
  go_wp2_with (go_at_call 65; refine (below_any B p n _ hc h0 h1).mono ?_; rintro e w1 ⟨⟨x, hx, rfl⟩, hc1, ho1⟩)
  go_ret
  exact ⟨⟨_, rfl⟩, hc1, ho1⟩
end Go.Proofs.Ytagnhfalmefbhaa.Draw
namespace Go.Proofs.Ytagnhfalmefbhaa.Draw
open Go Go.RowKit Go.Proofs.Ytagnhfalmefbhaa.Mem
set_option linter.unusedVariables false

theorem Only.own {p base n : Nat} {k : IntKind} {e : TypeId} {w w' : World} {v : Value} {zs : List Int} (h : OwnI k e base w v n zs) (ho : Only p w w') (hp : p < base) : OwnI k e base w' v n zs :=
  World.ownsRow.kept h (row := some p) ⟨ho.os, ho.tape, ho.output, ho.size, fun i hi hne => ho.block i hi (fun e => hne (by rw [e]))⟩ (by
    by_cases hv : v.ownBlock = some p
    · have := (World.ownsRow.lt h p hv).1; omega
    · exact .inr hv)
theorem Only.under {p B : Nat} {w w1 w2 : World} (h : Only p w w1) (hb : Below B w1 w2) (hB : w.heap.size ≤ B) : Only p w w2 :=
  ⟨hb.os.trans h.os, hb.tape.trans h.tape, hb.output.trans h.output, Nat.le_trans h.size hb.size, fun i hi hp => (hb.block i (by omega)).trans (h.block i hi hp)⟩
theorem Cur.under {T B p C : Nat} {w w' : World} (h : Cur T B p w) (hb : Below C w w') (hp : p < C) : Cur T B p w' := by
  obtain ⟨hBp, a, n, c, i, hh, h0, hi, hby⟩ := h
  refine ⟨hBp, a, n, c, i, hh, (hb.block p hp).trans h0, hi, hby.1, fun j hj => ?_⟩
  obtain ⟨b, off, x, ha, hB, hx, hc⟩ := hby.2 j hj
  exact ⟨b, off, x, ha, hB, hx, by rw [Draw.cell_of_heap (hb.block b (by omega))]; exact hc⟩
end Go.Proofs.Ytagnhfalmefbhaa.Draw
