/-
  Words for data of any depth in memory: numbers, truth values, texts, rows of them, rows of structs with rows inside; what can be read, what is a call's own. Marks that are written into data of any depth: what they leave; a slice whose elements are marked one after the other. A slice of structs that is laid and then filled, element by element. A slice of structs that a call builds by append, in the words for data of any depth.
  Conditions: as each theorem states them.
-/
import Derived.Test.YtagnhfalmefbhaaMem
import Derived.Maps.AppendAt
import Derived.Laws.OwnMore
import Derived.WalkKit
import Derived.OwnWalk
namespace Go.Proofs.Ytagnhfalmefbhaa.Gen
open Go Go.RowKit Go.Proofs.Ytagnhfalmefbhaa.Mem

/-- What lies in a cell; 'row k n f': a slice of n elements of k cells each. -/
inductive Dat where
  | int (z : Int)
  | bool (b : Bool)
  | str (s : ByteArray)
  | row (k n : Nat) (f : Nat → Nat → Dat)

/-- The value v reads as d; what it needs lies in blocks from lo on and below hi. -/
def Lies (lo hi : Nat) (w : World) : Dat → Value → Prop
  | .int z, v => v = .int .i64 z ∧ (Lit.int .i64 z).wf = true
  | .bool b, v => v = .bool b
  | .str s, v => v = .string s
  | .row k n f, v => ∃ A c, v = .slice A n c ∧ n ≤ c ∧ c ≤ maxLen ∧ (0 < n → ∃ b off, A = some ⟨b, off, none⟩ ∧ lo ≤ b ∧ b < hi ∧ ∀ i, i < n → ∀ x, x < k → ∃ u, w.cell? ⟨b, off + i * k + x, none⟩ = some u ∧ Lies lo hi w (f i x) u)

/-- No row below lies in the block b or in two places. -/
structure Apart (S : Nat → Prop) (b n k : Nat) (G : Nat → Nat → Nat → Prop) : Prop where
  sub : ∀ i x t, i < n → x < k → G i x t → S t ∧ t ≠ b
  dis : ∀ i x j y t, i < n → x < k → j < n → y < k → G i x t → G j y t → i = j ∧ x = y

/-- The same of what may be written; its blocks are among S. -/
def Owns (w : World) : Dat → Value → (Nat → Prop) → Prop
  | .int z, v, _ => v = .int .i64 z ∧ (Lit.int .i64 z).wf = true
  | .bool b, v, _ => v = .bool b
  | .str s, v, _ => v = .string s
  | .row k n f, v, S => ∃ A c, v = .slice A n c ∧ n ≤ c ∧ c ≤ maxLen ∧ (0 < n → ∃ b off, ∃ G : Nat → Nat → Nat → Prop, A = some ⟨b, off, none⟩ ∧ S b ∧ Apart S b n k G ∧ ∀ i, i < n → ∀ x, x < k → w.frozen? ⟨b, off + i * k + x, none⟩ = false ∧ ∃ u, w.cell? ⟨b, off + i * k + x, none⟩ = some u ∧ Owns w (f i x) u (G i x))

/-- Of the blocks that were there, those of S alone may have changed. -/
structure Turn (S : Nat → Prop) (w w' : World) : Prop where
  os : w'.os = w.os
  tape : w'.tape = w.tape
  output : w'.output = w.output
  size : w.heap.size ≤ w'.heap.size
  block : ∀ t, t < w.heap.size → ¬ S t → w'.heap[t]? = w.heap[t]?

def Span (lo hi : Nat) : Nat → Prop := fun t => lo ≤ t ∧ t < hi

theorem Turn.refl (S : Nat → Prop) (w : World) : Turn S w w := ⟨rfl, rfl, rfl, Nat.le_refl _, fun _ _ _ => rfl⟩
theorem Turn.trans {S : Nat → Prop} {a b c : World} (h : Turn S a b) (k : Turn S b c) : Turn S a c :=
  ⟨k.os.trans h.os, k.tape.trans h.tape, k.output.trans h.output, Nat.le_trans h.size k.size, fun t ht hn => (k.block t (Nat.lt_of_lt_of_le ht h.size) hn).trans (h.block t ht hn)⟩
theorem Turn.mono {S S' : Nat → Prop} {a b : World} (h : Turn S a b) (hs : ∀ t, S t → S' t) : Turn S' a b := ⟨h.os, h.tape, h.output, h.size, fun t ht hn => h.block t ht fun hS => hn (hs t hS)⟩
theorem Turn.zone {lo hi : Nat} {a b : World} (h : Turn (Span lo hi) a b) : Zone lo hi a b := ⟨h.os, h.tape, h.output, h.size, fun t ht hn => h.block t ht fun hS => by unfold Span at hS; omega⟩
theorem Turn.of_zone {lo hi : Nat} {S : Nat → Prop} {a b : World} (h : Zone lo hi a b) (hs : ∀ t, lo ≤ t → t < hi → S t) : Turn S a b :=
  ⟨h.os, h.tape, h.output, h.size, fun t ht hn => h.block t ht (by
    rcases Nat.lt_or_ge t lo with h1 | h1
    · exact .inl h1
    · rcases Nat.lt_or_ge t hi with h2 | h2
      · exact absurd (hs t h1 h2) hn
      · exact .inr h2)⟩
theorem Turn.of_below {S : Nat → Prop} {w w' : World} (h : Below w.heap.size w w') : Turn S w w' := ⟨h.os, h.tape, h.output, h.size, fun t ht _ => h.block t ht⟩
theorem Turn.setCell {S : Nat → Prop} {w w' : World} (h : Turn S w w') {b o : Nat} (hb : S b) (v : Value) : Turn S w (w'.setCell ⟨b, o, none⟩ v) :=
  ⟨h.os, h.tape, h.output, by simpa [World.setCell] using h.size, fun t ht hn => by rw [Below.heap_setCell _ _ _ _ (fun e => hn (by subst e; exact hb))]; exact h.block t ht hn⟩
theorem Turn.drewN {S : Nat → Prop} {w w' : World} (h : Turn S w w') (n : Nat) : Turn S w (w'.drewN n) := ⟨h.os, h.tape, h.output, h.size, h.block⟩
theorem Turn.below {S : Nat → Prop} {B : Nat} {w w' : World} (h : Turn S w w') (hs : ∀ t, S t → B ≤ t) (hB : B ≤ w.heap.size) : Below B w w' :=
  ⟨h.os, h.tape, h.output, h.size, fun t ht => h.block t (by omega) fun hS => by have := hs t hS; omega⟩

section
variable {lo hi B : Nat} {w w' : World} {S S' : Nat → Prop}
theorem Lies.keep {d : Dat} : ∀ {v : Value}, Lies lo hi w d v → (∀ i, i < w.heap.size → lo ≤ i → i < hi → w'.heap[i]? = w.heap[i]?) → Lies lo hi w' d v := by
  induction d with
  | int z => exact fun h _ => h
  | bool b => exact fun h _ => h
  | str s => exact fun h _ => h
  | row k n f ih =>
    rintro v ⟨A, c, rfl, h1, h2, h3⟩ hk
    refine ⟨A, c, rfl, h1, h2, fun hn => ?_⟩
    obtain ⟨b, off, e1, e2, e3, e4⟩ := h3 hn
    refine ⟨b, off, e1, e2, e3, fun i hi' x hx => ?_⟩
    obtain ⟨u, g1, g2⟩ := e4 i hi' x hx
    exact ⟨u, by rw [cell_of_heap (hk b (cell_lt g1) e2 e3)]; exact g1, ih i x g2 hk⟩
theorem Lies.more {lo' hi' : Nat} {d : Dat} (h1 : lo' ≤ lo) (h2 : hi ≤ hi') : ∀ {v : Value}, Lies lo hi w d v → Lies lo' hi' w d v := by
  induction d with
  | int z => exact fun h => h
  | bool b => exact fun h => h
  | str s => exact fun h => h
  | row k n f ih =>
    rintro v ⟨A, c, rfl, g1, g2, h3⟩
    refine ⟨A, c, rfl, g1, g2, fun hn => ?_⟩
    obtain ⟨b, off, e1, e2, e3, e4⟩ := h3 hn
    refine ⟨b, off, e1, by omega, by omega, fun i hi' x hx => ?_⟩
    obtain ⟨u, g1, g2⟩ := e4 i hi' x hx
    exact ⟨u, g1, ih i x g2⟩
theorem Lies.below {d : Dat} {v : Value} (h : Lies lo hi w d v) (hb : Below w.heap.size w w') : Lies lo hi w' d v := h.keep fun i hi _ _ => hb.block i hi
theorem Lies.under {d : Dat} {v : Value} (h : Lies lo hi w d v) (hb : Below B w w') (hB : hi ≤ B) : Lies lo hi w' d v := h.keep fun i _ _ h2 => hb.block i (by omega)
theorem Lies.zone {lo' hi' : Nat} {d : Dat} {v : Value} (h : Lies lo hi w d v) (hz : Zone lo' hi' w w') (hd : hi ≤ lo' ∨ hi' ≤ lo) : Lies lo hi w' d v := h.keep fun i h0 h1 h2 => hz.block i h0 (by omega)
theorem Lies.turn {d : Dat} {v : Value} (h : Lies lo hi w d v) (ht : Turn S w w') (hd : ∀ t, S t → lo ≤ t → t < hi → False) : Lies lo hi w' d v := h.keep fun i h0 h1 h2 => ht.block i h0 fun hS => hd i hS h1 h2
theorem Lies.drewN {d : Dat} {v : Value} (h : Lies lo hi w d v) (m : Nat) : Lies lo hi (w.drewN m) d v := h.keep fun _ _ _ _ => rfl
theorem Lies.congr {k n : Nat} {f g : Nat → Nat → Dat} {v : Value} (h : Lies lo hi w (.row k n f) v) (e : ∀ i, i < n → ∀ x, x < k → f i x = g i x) : Lies lo hi w (.row k n g) v := by
  obtain ⟨A, c, rfl, h1, h2, h3⟩ := h
  refine ⟨A, c, rfl, h1, h2, fun hn => ?_⟩
  obtain ⟨b, off, e1, e2, e3, e4⟩ := h3 hn
  exact ⟨b, off, e1, e2, e3, fun i hi x hx => by rw [← e i hi x hx]; exact e4 i hi x hx⟩

theorem Owns.keep {d : Dat} : ∀ {v : Value} {S : Nat → Prop}, Owns w d v S → (∀ t, t < w.heap.size → S t → w'.heap[t]? = w.heap[t]?) → Owns w' d v S := by
  induction d with
  | int z => exact fun h _ => h
  | bool b => exact fun h _ => h
  | str s => exact fun h _ => h
  | row k n f ih =>
    rintro v S ⟨A, c, rfl, h1, h2, h3⟩ hk
    refine ⟨A, c, rfl, h1, h2, fun hn => ?_⟩
    obtain ⟨b, off, G, e1, e2, e3, e4⟩ := h3 hn
    refine ⟨b, off, G, e1, e2, e3, fun i hi' x hx => ?_⟩
    obtain ⟨g0, u, g1, g2⟩ := e4 i hi' x hx
    have e := hk b (cell_lt g1) e2
    exact ⟨by rw [frozen_of_heap e]; exact g0, u, by rw [cell_of_heap e]; exact g1, ih i x g2 fun t ht hG => hk t ht (e3.sub i x t hi' hx hG).1⟩
theorem Owns.mono {d : Dat} : ∀ {v : Value} {S S' : Nat → Prop}, Owns w d v S → (∀ t, S t → S' t) → Owns w d v S' := by
  cases d with
  | int z => exact fun h _ => h
  | bool b => exact fun h _ => h
  | str s => exact fun h _ => h
  | row k n f =>
    rintro v S S' ⟨A, c, rfl, h1, h2, h3⟩ hs
    refine ⟨A, c, rfl, h1, h2, fun hn => ?_⟩
    obtain ⟨b, off, G, e1, e2, e3, e4⟩ := h3 hn
    exact ⟨b, off, G, e1, hs b e2, ⟨fun i x t hi hx hG => ⟨hs t (e3.sub i x t hi hx hG).1, (e3.sub i x t hi hx hG).2⟩, e3.dis⟩, e4⟩
theorem Owns.lies {d : Dat} : ∀ {v : Value} {S : Nat → Prop}, Owns w d v S → (∀ t, S t → lo ≤ t ∧ t < hi) → Lies lo hi w d v := by
  induction d with
  | int z => exact fun h _ => h
  | bool b => exact fun h _ => h
  | str s => exact fun h _ => h
  | row k n f ih =>
    rintro v S ⟨A, c, rfl, h1, h2, h3⟩ hs
    refine ⟨A, c, rfl, h1, h2, fun hn => ?_⟩
    obtain ⟨b, off, G, e1, e2, e3, e4⟩ := h3 hn
    refine ⟨b, off, e1, (hs b e2).1, (hs b e2).2, fun i hi' x hx => ?_⟩
    obtain ⟨_, u, g1, g2⟩ := e4 i hi' x hx
    exact ⟨u, g1, ih i x g2 fun t hG => hs t (e3.sub i x t hi' hx hG).1⟩
theorem Owns.congr {k n : Nat} {f g : Nat → Nat → Dat} {v : Value} (h : Owns w (.row k n f) v S) (e : ∀ i, i < n → ∀ x, x < k → f i x = g i x) : Owns w (.row k n g) v S := by
  obtain ⟨A, c, rfl, h1, h2, h3⟩ := h
  refine ⟨A, c, rfl, h1, h2, fun hn => ?_⟩
  obtain ⟨b, off, G, e1, e2, e3, e4⟩ := h3 hn
  exact ⟨b, off, G, e1, e2, e3, fun i hi x hx => by rw [← e i hi x hx]; exact e4 i hi x hx⟩
theorem Owns.below {d : Dat} {v : Value} (h : Owns w d v S) (hb : Below w.heap.size w w') : Owns w' d v S := h.keep fun t ht _ => hb.block t ht
theorem Owns.under {d : Dat} {v : Value} (h : Owns w d v S) (hb : Below B w w') (hB : ∀ t, S t → t < B) : Owns w' d v S := h.keep fun t _ hS => hb.block t (hB t hS)
theorem Owns.turn {d : Dat} {v : Value} (h : Owns w d v S) (ht : Turn S' w w') (hd : ∀ t, S t → ¬ S' t) : Owns w' d v S := h.keep fun t h0 hS => ht.block t h0 (hd t hS)
theorem Owns.zone {lo hi : Nat} {d : Dat} {v : Value} (h : Owns w d v S) (hz : Zone lo hi w w') (hd : ∀ t, S t → t < lo ∨ hi ≤ t) : Owns w' d v S := h.keep fun t h0 hS => hz.block t h0 (hd t hS)
theorem Owns.drewN {d : Dat} {v : Value} (h : Owns w d v S) (m : Nat) : Owns (w.drewN m) d v S := h.keep fun _ _ _ => rfl
end

/-- What is the call's own: in blocks from lo on and below hi. -/
abbrev OwnD (lo hi : Nat) (w : World) (d : Dat) (v : Value) : Prop := Owns w d v (Span lo hi)
section
variable {lo hi B : Nat} {w w' : World} {d : Dat} {v : Value}
theorem OwnD.lies (h : OwnD lo hi w d v) : Lies lo hi w d v := Owns.lies h fun _ hS => hS
theorem OwnD.more {lo' hi' : Nat} (h : OwnD lo hi w d v) (h1 : lo' ≤ lo) (h2 : hi ≤ hi') : OwnD lo' hi' w d v := Owns.mono h fun t hS => by unfold Span at *; omega
theorem OwnD.under (h : OwnD lo hi w d v) (hb : Below B w w') (hB : hi ≤ B) : OwnD lo hi w' d v := Owns.under h hb fun t hS => by unfold Span at hS; omega
theorem OwnD.zone {lo' hi' : Nat} (h : OwnD lo hi w d v) (hz : Zone lo' hi' w w') (hd : hi ≤ lo' ∨ hi' ≤ lo) : OwnD lo hi w' d v := Owns.zone h hz fun t hS => by unfold Span at hS; omega
end

/-- What a call hands back: a value of its own. -/
def Given (lo : Nat) (d : Dat) (w : World) (e : Ending) (w' : World) : Prop :=
  ∃ v, e = .returned v ∧ OwnD lo w'.heap.size w' d v ∧ Below lo w w'

/-- A row of integers. -/
def ints (zs : List Int) : Dat := .row 1 zs.length fun i _ => .int (zs.getD i 0)
section
variable {lo hi n c : Nat} {w : World} {A : Option Addr} {zs : List Int}
theorem lies_int {z : Int} {v : Value} (h : Lies lo hi w (.int z) v) : v = .int .i64 z ∧ (Lit.int .i64 z).wf = true := h
theorem lies_bool {b : Bool} {v : Value} (h : Lies lo hi w (.bool b) v) : v = .bool b := h
theorem lies_ints {v : Value} (h : Lies lo hi w (ints zs) v) : ∃ A c, v = .slice A zs.length c := by
  obtain ⟨A, c, e, _⟩ := h; exact ⟨A, c, e⟩
theorem owns_int {S : Nat → Prop} {z : Int} {v : Value} (h : Owns w (.int z) v S) : v = .int .i64 z ∧ (Lit.int .i64 z).wf = true := h
theorem owns_bool {S : Nat → Prop} {b : Bool} {v : Value} (h : Owns w (.bool b) v S) : v = .bool b := h
theorem owns_ints {S : Nat → Prop} {v : Value} (h : Owns w (ints zs) v S) : ∃ A c, v = .slice A zs.length c := by
  obtain ⟨A, c, e, _⟩ := h; exact ⟨A, c, e⟩
theorem Lies.of_row (h : Row .i64 lo hi w A n zs) (h1 : n ≤ c) (h2 : c ≤ maxLen) : Lies lo hi w (ints zs) (.slice A n c) := by
  obtain ⟨rfl, h4, h5⟩ := h
  refine ⟨A, c, rfl, h1, h2, fun hn => ?_⟩
  obtain ⟨b, off, e1, e2, e3, e4⟩ := h5 hn
  refine ⟨b, off, e1, e2, e3, fun i hi x hx => ?_⟩
  obtain rfl : x = 0 := by omega
  refine ⟨_, by rw [Nat.mul_one, Nat.add_zero]; exact e4 i hi, rfl, h4 _ ?_⟩
  rw [List.getD_eq_getElem?_getD, List.getElem?_eq_getElem hi]
  exact List.getElem_mem _
theorem Lies.row {v : Value} (h : Lies lo hi w (ints zs) v) : ∃ A c, v = .slice A zs.length c ∧ zs.length ≤ c ∧ c ≤ maxLen ∧ Row .i64 lo hi w A zs.length zs := by
  obtain ⟨A, c, rfl, h1, h2, h3⟩ := h
  refine ⟨A, c, rfl, h1, h2, rfl, fun z hz => ?_, fun hn => ?_⟩
  · obtain ⟨i, hi, rfl⟩ := List.getElem_of_mem hz
    obtain ⟨b, off, _, _, _, e4⟩ := h3 (by omega)
    obtain ⟨u, _, g2⟩ := e4 i hi 0 (by omega)
    have := g2.2
    rwa [List.getD_eq_getElem?_getD, List.getElem?_eq_getElem hi] at this
  · obtain ⟨b, off, e1, e2, e3, e4⟩ := h3 hn
    refine ⟨b, off, e1, e2, e3, fun i hi => ?_⟩
    obtain ⟨u, g1, g2⟩ := e4 i hi 0 (by omega)
    rw [Nat.mul_one, Nat.add_zero] at g1
    rw [g1, g2.1]
theorem Lies.row' (h : Lies lo hi w (ints zs) (.slice A zs.length c)) : Row .i64 lo hi w A zs.length zs ∧ zs.length ≤ c ∧ c ≤ maxLen := by
  obtain ⟨A', c', e, h1, h2, h3⟩ := h.row
  injection e with e1 _ e3
  subst e1 e3
  exact ⟨h3, h1, h2⟩
theorem Owns.of_row {S : Nat → Prop} (h : Own .i64 lo hi w A n zs) (h1 : n ≤ c) (h2 : c ≤ maxLen) (hS : ∀ t, lo ≤ t → t < hi → S t) : Owns w (ints zs) (.slice A n c) S := by
  obtain ⟨rfl, h4, h5⟩ := h
  refine ⟨A, c, rfl, h1, h2, fun hn => ?_⟩
  obtain ⟨b, off, e1, e2, e3, e4⟩ := h5 hn
  refine ⟨b, off, fun _ _ _ => False, e1, hS b e2 e3, ⟨fun _ _ _ _ _ h => h.elim, fun _ _ _ _ _ _ _ _ _ h => h.elim⟩, fun i hi x hx => ?_⟩
  obtain rfl : x = 0 := by omega
  rw [Nat.mul_one, Nat.add_zero]
  refine ⟨(e4 i hi).2, _, (e4 i hi).1, rfl, h4 _ ?_⟩
  rw [List.getD_eq_getElem?_getD, List.getElem?_eq_getElem hi]
  exact List.getElem_mem _
theorem Owns.row {S : Nat → Prop} {v : Value} (h : Owns w (ints zs) v S) : ∃ A c lo hi, v = .slice A zs.length c ∧ zs.length ≤ c ∧ c ≤ maxLen ∧ Own .i64 lo hi w A zs.length zs ∧ (∀ t, lo ≤ t → t < hi → S t) := by
  obtain ⟨A, c, rfl, h1, h2, h3⟩ := h
  have hwf : ∀ z ∈ zs, (Lit.int .i64 z).wf = true := fun z hz => by
    obtain ⟨i, hi, rfl⟩ := List.getElem_of_mem hz
    obtain ⟨b, off, G, _, _, _, e4⟩ := h3 (by omega)
    obtain ⟨_, u, _, g2⟩ := e4 i hi 0 (by omega)
    have := g2.2
    rwa [List.getD_eq_getElem?_getD, List.getElem?_eq_getElem hi] at this
  rcases Nat.eq_zero_or_pos zs.length with h0 | hp
  · exact ⟨A, c, 0, 0, rfl, h1, h2, ⟨rfl, hwf, fun h => absurd h (by omega)⟩, fun t _ h => absurd h (by omega)⟩
  · obtain ⟨b, off, G, e1, e2, _, e4⟩ := h3 hp
    refine ⟨A, c, b, b + 1, rfl, h1, h2, ⟨rfl, hwf, fun _ => ⟨b, off, e1, Nat.le_refl _, Nat.lt_succ_self _, fun i hi => ?_⟩⟩, fun t ht1 ht2 => by rw [show t = b by omega]; exact e2⟩
    obtain ⟨g0, u, g1, g2⟩ := e4 i hi 0 (by omega)
    rw [Nat.mul_one, Nat.add_zero] at g0 g1
    exact ⟨by rw [g1, g2.1], g0⟩
end
end Go.Proofs.Ytagnhfalmefbhaa.Gen
namespace Go.Proofs.Ytagnhfalmefbhaa.Gen
open Go Go.RowKit Go.Proofs.Ytagnhfalmefbhaa.Mem

def sumTo (g : Nat → Nat) : Nat → Nat
  | 0 => 0
  | n + 1 => sumTo g n + g n
theorem sumTo_congr {g h : Nat → Nat} : ∀ {n : Nat}, (∀ i, i < n → g i = h i) → sumTo g n = sumTo h n
  | 0, _ => rfl
  | n + 1, e => by simp only [sumTo]; rw [sumTo_congr (n := n) fun i hi => e i (by omega), e n (by omega)]
theorem sumTo_le (g : Nat → Nat) : ∀ {i n : Nat}, i ≤ n → sumTo g i ≤ sumTo g n
  | i, 0, h => by obtain rfl : i = 0 := by omega
                  exact Nat.le_refl _
  | i, n + 1, h => by
    by_cases he : i = n + 1
    · subst he; exact Nat.le_refl _
    · have := sumTo_le g (i := i) (n := n) (by omega)
      simp only [sumTo]; omega
theorem sumTo_one (n : Nat) : sumTo (fun _ => 1) n = n := by induction n with
  | zero => rfl
  | succ n ih => simp only [sumTo, ih]
/-- How many marks it takes. -/
def ct : Dat → Nat
  | .row k n f => sumTo (fun i => sumTo (fun x => ct (f i x)) k) n
  | _ => 1
/-- How much room it takes, as the exact laws count it. -/
def room : Dat → Nat
  | .row k n f => n + sumTo (fun i => sumTo (fun x => room (f i x)) k) n
  | .str s => s.size
  | _ => 0
def ctRow (k : Nat) (f : Nat → Nat → Dat) (i : Nat) : Nat := sumTo (fun x => ct (f i x)) k
def before (k : Nat) (f : Nat → Nat → Dat) (i x : Nat) : Nat := sumTo (ctRow k f) i + sumTo (fun y => ct (f i y)) x
/-- What the marks from m on leave. -/
def mk : Nat → Dat → Dat
  | m, .int _ => .int (m : Nat)
  | m, .bool _ => .bool (m % 3 = 0)
  | _, .str s => .str s
  | m, .row k n f => .row k n fun i x => mk (m + (sumTo (fun i => sumTo (fun x => ct (f i x)) k) i + sumTo (fun y => ct (f i y)) x)) (f i x)
theorem mk_row (m k n : Nat) (f : Nat → Nat → Dat) : mk m (.row k n f) = .row k n fun i x => mk (m + before k f i x) (f i x) := rfl
theorem ct_row (k n : Nat) (f : Nat → Nat → Dat) : ct (.row k n f) = sumTo (ctRow k f) n := rfl
theorem ct_mk (d : Dat) : ∀ m, ct (mk m d) = ct d := by
  induction d with
  | int z => exact fun _ => rfl
  | bool b => exact fun _ => rfl
  | str s => exact fun _ => rfl
  | row k n f ih =>
    intro m
    rw [mk_row]
    simp only [ct]
    exact sumTo_congr fun i _ => sumTo_congr fun x _ => ih i x _
theorem before_zero (k : Nat) (f : Nat → Nat → Dat) (i : Nat) : before k f i 0 = sumTo (ctRow k f) i := rfl
theorem before_succ (k : Nat) (f : Nat → Nat → Dat) (i x : Nat) : before k f i (x + 1) = before k f i x + ct (f i x) := by simp only [before, sumTo]; omega
theorem before_next (k : Nat) (f : Nat → Nat → Dat) (i : Nat) : before k f i k = sumTo (ctRow k f) (i + 1) := rfl
theorem before_le {k n i x : Nat} {f : Nat → Nat → Dat} (hi : i < n) (hx : x ≤ k) : before k f i x ≤ ct (.row k n f) := by
  have h1 := sumTo_le (fun y => ct (f i y)) hx
  have h2 := sumTo_le (ctRow k f) (i := i + 1) (n := n) (by omega)
  rw [ct_row]
  simp only [sumTo, ctRow] at h2
  simp only [before]
  omega
theorem ct_ints (zs : List Int) : ct (ints zs) = zs.length := by
  simp only [ints, ct, sumTo]
  rw [show (fun _ : Nat => 0 + 1) = fun _ => 1 from rfl, sumTo_one]
theorem room_ints (zs : List Int) : room (ints zs) = zs.length := by
  have h : ∀ n : Nat, sumTo (fun _ => 0) n = 0 := fun n => by induction n with
    | zero => rfl
    | succ n ih => simp only [sumTo, ih]
  simp only [ints, room]
  rw [show (fun i : Nat => sumTo (fun x => 0) 1) = fun _ => 0 from rfl, h]
  rfl
theorem before_ints (zs : List Int) (i : Nat) : before 1 (fun i _ => .int (zs.getD i 0)) i 0 = i := by
  rw [before_zero]
  have : ctRow 1 (fun i _ => Dat.int (zs.getD i 0)) = fun _ => 1 := by funext i; simp [ctRow, sumTo, ct]
  rw [this, sumTo_one]
theorem marks_cell {m n i : Nat} (h : m + n ≤ 9223372036854775807) (hi : i < n) : (marks .i64 m n).getD i 0 = ((m + i : Nat) : Int) := by
  rw [marks_at _ _ _ _ hi, IntKind.wrap_i64]; omega
theorem ints_marks (m n : Nat) : ints (marks .i64 m n) = .row 1 n fun i _ => .int ((marks .i64 m n).getD i 0) := by
  unfold ints
  rw [marks_len]
section
variable {lo hi m : Nat} {w : World} {S : Nat → Prop} {zs : List Int} {v : Value}
theorem mk_ints_at (h : m + zs.length ≤ 9223372036854775807) : ∀ i, i < zs.length → ∀ x, x < 1 → Dat.int ((marks .i64 m zs.length).getD i 0) = mk (m + before 1 (fun i _ => .int (zs.getD i 0)) i x) (Dat.int (zs.getD i 0)) := fun i hi x hx => by
  obtain rfl : x = 0 := by omega
  rw [before_ints, marks_cell h hi]
  rfl
theorem Owns.mk_ints (h : Owns w (ints (marks .i64 m zs.length)) v S) (hb : m + zs.length ≤ 9223372036854775807) : Owns w (mk m (ints zs)) v S := by
  rw [ints_marks] at h
  unfold ints
  rw [mk_row]
  exact h.congr (mk_ints_at hb)
theorem Lies.of_mk_ints (h : Lies lo hi w (mk m (ints zs)) v) (hb : m + zs.length ≤ 9223372036854775807) : Lies lo hi w (ints (marks .i64 m zs.length)) v := by
  rw [ints_marks]
  unfold ints at h
  rw [mk_row] at h
  exact h.congr fun i hi x hx => (mk_ints_at hb i hi x hx).symm
end

theorem lies_mk_ints {lo hi m : Nat} {w : World} {zs : List Int} {v : Value} (h : Lies lo hi w (mk m (ints zs)) v) : ∃ A c, v = .slice A zs.length c := by
  obtain ⟨A, c, e, _⟩ := h; exact ⟨A, c, e⟩
theorem room_row (k n : Nat) (f : Nat → Nat → Dat) : room (.row k n f) = n + sumTo (fun i => sumTo (fun x => room (f i x)) k) n := rfl
theorem room_at {k n i : Nat} {f : Nat → Nat → Dat} (hi : i < n) : sumTo (fun x => room (f i x)) k ≤ room (.row k n f) := by
  have h := sumTo_le (fun i => sumTo (fun x => room (f i x)) k) (i := i + 1) (n := n) (by omega)
  rw [room_row]
  simp only [sumTo] at h
  omega
theorem sumTo_bound {g h : Nat → Nat} {k : Nat} : ∀ {n : Nat}, (∀ i, i < n → g i ≤ k + 64 * h i) → sumTo g n ≤ k * n + 64 * sumTo h n
  | 0, _ => by simp [sumTo]
  | n + 1, e => by
    have h1 := sumTo_bound (n := n) fun i hi => e i (by omega)
    have h2 := e n (by omega)
    simp only [sumTo, Nat.mul_add]
    omega
theorem ct_le_room {k n : Nat} {f : Nat → Nat → Dat} (hk : k ≤ 64) (h : ∀ i, i < n → sumTo (fun x => ct (f i x)) k ≤ k + 64 * sumTo (fun x => room (f i x)) k) : ct (.row k n f) ≤ 64 * room (.row k n f) := by
  rw [ct_row, room_row]
  have h1 := sumTo_bound (g := ctRow k f) (h := fun i => sumTo (fun x => room (f i x)) k) (k := k) (n := n) h
  have h2 := Nat.mul_le_mul_right n hk
  simp only [Nat.mul_add]
  omega
theorem ctb_ints (zs : List Int) : ct (ints zs) ≤ 64 * room (ints zs) := by rw [ct_ints, room_ints]; omega
theorem ink_int {w : World} {S : Nat → Prop} {q : Nat} {z : Int} {v : Value} (hv : v = .int .i64 (q : Nat)) (hq : q ≤ 1125899906842640) : Owns w (mk q (.int z)) v S := ⟨hv, WalkArith.wf_i64 (by omega)⟩

/-- The cells of a slice of n elements of k cells: element i's cell x holds D i x. -/
def Cellar (w : World) (b off n k : Nat) (G : Nat → Nat → Nat → Prop) (D : Nat → Nat → Dat) : Prop :=
  ∀ i, i < n → ∀ x, x < k → w.frozen? ⟨b, off + i * k + x, none⟩ = false ∧ ∃ u, w.cell? ⟨b, off + i * k + x, none⟩ = some u ∧ Owns w (D i x) u (G i x)
/-- The elements ahead of j, and element j's cells ahead of x, are marked. -/
def inked (k : Nat) (f : Nat → Nat → Dat) (m j x : Nat) : Nat → Nat → Dat := fun i y => if i < j ∨ (i = j ∧ y < x) then mk (m + before k f i y) (f i y) else f i y
theorem inked_zero (k : Nat) (f : Nat → Nat → Dat) (m : Nat) : inked k f m 0 0 = f := by
  funext i y
  unfold inked
  rw [if_neg (by omega)]
theorem inked_here (k : Nat) (f : Nat → Nat → Dat) (m j x y : Nat) (h : x ≤ y) : inked k f m j x j y = f j y := by
  unfold inked
  rw [if_neg (by omega)]
theorem Cellar.congr {w : World} {b off n k : Nat} {G : Nat → Nat → Nat → Prop} {D D' : Nat → Nat → Dat} (h : Cellar w b off n k G D) (e : ∀ i, i < n → ∀ x, x < k → D i x = D' i x) : Cellar w b off n k G D' := fun i hi x hx => by
  rw [← e i hi x hx]; exact h i hi x hx
theorem Cellar.round {w : World} {b off n k m j : Nat} {G : Nat → Nat → Nat → Prop} {f : Nat → Nat → Dat} (h : Cellar w b off n k G (inked k f m j k)) : Cellar w b off n k G (inked k f m (j + 1) 0) := h.congr fun i _ x hx => by
  unfold inked
  by_cases hi : i < j ∨ i = j
  · rw [if_pos (by omega), if_pos (by omega)]
  · rw [if_neg (by omega), if_neg (by omega)]
theorem Cellar.all {w : World} {b off n k m : Nat} {G : Nat → Nat → Nat → Prop} {f : Nat → Nat → Dat} (h : Cellar w b off n k G (inked k f m n 0)) : Cellar w b off n k G (fun i x => mk (m + before k f i x) (f i x)) := h.congr fun i hi x _ => by
  unfold inked
  rw [if_pos (by omega)]
theorem off_inj {k i j x y : Nat} (hx : x < k) (hy : y < k) (h : i * k + x = j * k + y) : i = j ∧ x = y := by
  rcases Nat.lt_trichotomy i j with h1 | h1 | h1
  · have := Nat.mul_le_mul_right k (show i + 1 ≤ j by omega)
    rw [Nat.add_mul] at this
    omega
  · subst h1; omega
  · have := Nat.mul_le_mul_right k (show j + 1 ≤ i by omega)
    rw [Nat.add_mul] at this
    omega
/-- A mark into one cell. -/
theorem Cellar.cell {w : World} {b off n k m j x : Nat} {S : Nat → Prop} {G : Nat → Nat → Nat → Prop} {f : Nat → Nat → Dat} {v : Value} (h : Cellar w b off n k G (inked k f m j x)) (hA : Apart S b n k G) (hj : j < n) (hx : x < k)
    (hv : ∀ w S, Owns w (mk (m + before k f j x) (f j x)) v S) : Cellar (w.setCell ⟨b, off + j * k + x, none⟩ v) b off n k G (inked k f m j (x + 1)) := by
  intro i hi y hy
  obtain ⟨g0, u, g1, g2⟩ := h i hi y hy
  rw [World.frozen?_setCell]
  refine ⟨g0, ?_⟩
  by_cases he : i = j ∧ y = x
  · obtain ⟨rfl, rfl⟩ := he
    refine ⟨v, World.cell?_setCell_same _ _ _ g1, ?_⟩
    unfold inked
    rw [if_pos (by omega)]
    exact hv _ _
  · refine ⟨u, ?_, ?_⟩
    · rw [World.cell?_setCell_other _ _ _ _ (by intro e; injection e with _ e _; exact he (off_inj hy hx (by omega)) )]
      exact g1
    · have e : inked k f m j (x + 1) i y = inked k f m j x i y := by
        unfold inked
        by_cases hc : i < j ∨ (i = j ∧ y < x)
        · rw [if_pos hc, if_pos (by omega)]
        · rw [if_neg hc, if_neg (by omega)]
      rw [e]
      exact g2.keep fun t _ hG => Below.heap_setCell _ _ _ _ (hA.sub i y t hi hy hG).2
/-- A mark into what a cell leads to. -/
theorem Cellar.inner {w w' : World} {b off n k m j x : Nat} {S : Nat → Prop} {G : Nat → Nat → Nat → Prop} {f : Nat → Nat → Dat} {v : Value} (h : Cellar w b off n k G (inked k f m j x)) (hA : Apart S b n k G) (hj : j < n) (hx : x < k)
    (hc : w.cell? ⟨b, off + j * k + x, none⟩ = some v) (ht : Turn (G j x) w w') (hv : Owns w' (mk (m + before k f j x) (f j x)) v (G j x)) : Cellar w' b off n k G (inked k f m j (x + 1)) := by
  have hb : w'.heap[b]? = w.heap[b]? := ht.block b (cell_lt hc) fun hG => (hA.sub j x b hj hx hG).2 rfl
  intro i hi y hy
  obtain ⟨g0, u, g1, g2⟩ := h i hi y hy
  rw [frozen_of_heap hb, cell_of_heap hb]
  refine ⟨g0, u, g1, ?_⟩
  by_cases he : i = j ∧ y = x
  · obtain ⟨rfl, rfl⟩ := he
    rw [g1] at hc
    injection hc with hc
    subst hc
    unfold inked
    rw [if_pos (by omega)]
    exact hv
  · have e : inked k f m j (x + 1) i y = inked k f m j x i y := by
      unfold inked
      by_cases hc : i < j ∨ (i = j ∧ y < x)
      · rw [if_pos hc, if_pos (by omega)]
      · rw [if_neg hc, if_neg (by omega)]
    rw [e]
    exact g2.turn ht fun t h1 h2 => he (hA.dis i y j x t hi hy hj hx h1 h2)
/-- The cell that comes next holds what it held. -/
theorem Cellar.next {w : World} {b off n k m j x y : Nat} {G : Nat → Nat → Nat → Prop} {f : Nat → Nat → Dat} (h : Cellar w b off n k G (inked k f m j x)) (hj : j < n) (hy : y < k) (hxy : x ≤ y) :
    w.frozen? ⟨b, off + j * k + y, none⟩ = false ∧ ∃ u, w.cell? ⟨b, off + j * k + y, none⟩ = some u ∧ Owns w (f j y) u (G j y) := by
  have := h j hj y hy
  rwa [inked_here _ _ _ _ _ _ hxy] at this
end Go.Proofs.Ytagnhfalmefbhaa.Gen
namespace Go.Proofs.Ytagnhfalmefbhaa.Gen
open Go Go.RowKit Go.Proofs.Ytagnhfalmefbhaa.Mem

/-- The cells from offset o on are written, one after the other. -/
def putL (w : World) (b o : Nat) : List Value → World
  | [] => w
  | u :: us => putL (w.setCell ⟨b, o, none⟩ u) b (o + 1) us
theorem putL_frozen (b : Nat) (x : Addr) : ∀ (us : List Value) (w : World) (o : Nat), (putL w b o us).frozen? x = w.frozen? x
  | [], _, _ => rfl
  | u :: us, w, o => by rw [putL, putL_frozen b x us, World.frozen?_setCell]
theorem putL_block (b k : Nat) (h : k ≠ b) : ∀ (us : List Value) (w : World) (o : Nat), (putL w b o us).heap[k]? = w.heap[k]?
  | [], _, _ => rfl
  | u :: us, w, o => by rw [putL, putL_block b k h us, Below.heap_setCell _ _ _ _ h]
theorem putL_size (b : Nat) : ∀ (us : List Value) (w : World) (o : Nat), (putL w b o us).heap.size = w.heap.size
  | [], _, _ => rfl
  | u :: us, w, o => by rw [putL, putL_size b us]; simp [World.setCell]
theorem putL_below {B b : Nat} (hb : B ≤ b) {w0 : World} : ∀ (us : List Value) (w : World) (o : Nat), Below B w0 w → Below B w0 (putL w b o us)
  | [], _, _, h => h
  | u :: us, w, o, h => by rw [putL]; exact putL_below hb us _ _ (h.setCell hb _)
theorem putL_zone {lo hi b : Nat} (hb : lo ≤ b ∧ b < hi) {w0 : World} : ∀ (us : List Value) (w : World) (o : Nat), Zone lo hi w0 w → Zone lo hi w0 (putL w b o us)
  | [], _, _, h => h
  | u :: us, w, o, h => by rw [putL]; exact putL_zone hb us _ _ (h.setCell hb _)
theorem cell_set_ne' {w : World} {b o o' : Nat} (v : Value) (h : o ≠ o') : (w.setCell ⟨b, o, none⟩ v).cell? ⟨b, o', none⟩ = w.cell? ⟨b, o', none⟩ :=
  World.cell?_setCell_other _ _ _ _ (by intro e; injection e with _ e _; omega)
theorem putL_other (b x : Nat) : ∀ (us : List Value) (w : World) (o : Nat), x < o ∨ o + us.length ≤ x → (putL w b o us).cell? ⟨b, x, none⟩ = w.cell? ⟨b, x, none⟩
  | [], _, _, _ => rfl
  | u :: us, w, o, h => by
    simp only [List.length_cons] at h
    rw [putL, putL_other b x us _ _ (by omega), cell_set_ne' _ (by omega)]
theorem putL_at (b : Nat) : ∀ (us : List Value) (w : World) (o x : Nat) (u : Value), (∀ y, y < us.length → ∃ v, w.cell? ⟨b, o + y, none⟩ = some v) → us[x]? = some u → (putL w b o us).cell? ⟨b, o + x, none⟩ = some u
  | [], _, _, _, _, _, h => by simp at h
  | v :: us, w, o, 0, u, hc, h => by
    simp only [List.getElem?_cons_zero, Option.some.injEq] at h
    subst h
    obtain ⟨z, hz⟩ := hc 0 (by simp)
    rw [Nat.add_zero] at hz ⊢
    rw [putL, putL_other b _ us _ _ (by omega), World.cell?_setCell_same _ _ _ hz]
  | v :: us, w, o, x + 1, u, hc, h => by
    simp only [List.getElem?_cons_succ] at h
    rw [putL, show o + (x + 1) = o + 1 + x by omega]
    refine putL_at b us _ (o + 1) x u (fun y hy => ?_) h
    obtain ⟨z, hz⟩ := hc (y + 1) (by simp; omega)
    exact ⟨z, by rw [cell_set_ne' _ (by omega), show o + 1 + y = o + (y + 1) by omega]; exact hz⟩

/-- A slice of n elements in block b, of which the first j are filled. -/
structure FillG (b n k : Nat) (G : Nat → Nat → Nat → Prop) (D : Nat → Nat → Dat) (j : Nat) (w : World) : Prop where
  lt : b < w.heap.size
  sep : Apart (Span b w.heap.size) b j k G
  done : ∀ i, i < j → ∀ x, x < k → ∃ u, w.cell? ⟨b, i * k + x, none⟩ = some u ∧ Owns w (D i x) u (G i x)
  rest : ∀ t, t < n * k → (∃ u, w.cell? ⟨b, t, none⟩ = some u) ∧ w.frozen? ⟨b, t, none⟩ = false
def Fill (b n k : Nat) (D : Nat → Nat → Dat) (j : Nat) (w : World) : Prop := ∃ G, FillG b n k G D j w
/-- Among what a call has given: the values of an element, each with blocks of its own. -/
structure Fresh (lo hi k : Nat) (g : Nat → Nat → Prop) (D : Nat → Dat) (us : List Value) (w : World) : Prop where
  len : us.length = k
  sub : ∀ x t, x < k → g x t → lo ≤ t ∧ t < hi
  dis : ∀ x y t, x < k → y < k → g x t → g y t → x = y
  own : ∀ x, x < k → ∃ u, us[x]? = some u ∧ Owns w (D x) u (g x)

theorem Fill.rest {b n k j : Nat} {D : Nat → Nat → Dat} {w : World} (h : Fill b n k D j w) (t : Nat) (ht : t < n * k) : (∃ u, w.cell? ⟨b, t, none⟩ = some u) ∧ w.frozen? ⟨b, t, none⟩ = false := by
  obtain ⟨G, h⟩ := h; exact h.rest t ht
theorem Fill.start {T : TypeId} {b n k : Nat} {w : World} {xs : List Value} {D : Nat → Nat → Dat} (h : w.ownsRow b T k (.slice (some ⟨b, 0, none⟩) n n) n xs) : Fill b n k D 0 w := by
  refine ⟨fun _ _ _ => False, (h.lt b rfl).2, ⟨fun _ _ _ _ _ h => h.elim, fun _ _ _ _ _ _ _ _ _ h => h.elim⟩, fun i hi => absurd hi (by omega), fun x hx => ⟨?_, h.frozenAt _⟩⟩
  rw [h.cellAt x hx]
  exact ⟨_, List.getElem?_eq_getElem (by rw [h.1]; exact hx)⟩
theorem Fill.below {b n k j : Nat} {D : Nat → Nat → Dat} {w w' : World} (h : Fill b n k D j w) (hb : Below w.heap.size w w') : Fill b n k D j w' := by
  obtain ⟨G, h⟩ := h
  have e := hb.block b h.lt
  have hs := hb.size
  refine ⟨G, Nat.lt_of_lt_of_le h.lt hs, ⟨fun i x t hi hx hG => ?_, h.sep.dis⟩, fun i hi x hx => ?_, fun t ht => ?_⟩
  · have := h.sep.sub i x t hi hx hG
    unfold Span at *
    omega
  · obtain ⟨u, h1, h2⟩ := h.done i hi x hx
    exact ⟨u, by rw [cell_of_heap e]; exact h1, h2.below hb⟩
  · rw [cell_of_heap e, frozen_of_heap e]
    exact h.rest t ht
theorem Fill.next {b n k j : Nat} {D : Nat → Nat → Dat} {w w1 : World} {g : Nat → Nat → Prop} {us : List Value} (h : Fill b n k D j w) (hb : Below w.heap.size w w1) (hj : j < n) (ho : Fresh w.heap.size w1.heap.size k g (D j) us w1) : Fill b n k D (j + 1) (putL w1 b (j * k) us) := by
  have hlt1 : b < w.heap.size := by obtain ⟨G, h⟩ := h; exact h.lt
  obtain ⟨G0, h0⟩ := h
  have hsz := hb.size
  have hjk : j * k + k ≤ n * k := by
    have := Nat.mul_le_mul_right k (show j + 1 ≤ n by omega)
    rw [Nat.add_mul] at this
    omega
  have hs0 : ∀ i x t, i < j → x < k → G0 i x t → (b ≤ t ∧ t < w.heap.size) ∧ t ≠ b := fun i x t hi hx hG => h0.sep.sub i x t hi hx hG
  have ho0 : ∀ i, i < j → ∀ x, x < k → ∃ u, w.cell? ⟨b, i * k + x, none⟩ = some u ∧ Owns w (D i x) u (G0 i x) := h0.done
  have eb := hb.block b hlt1
  have hkeep : ∀ {d : Dat} {v : Value} {S : Nat → Prop}, Owns w1 d v S → (∀ t, S t → t ≠ b) → Owns (putL w1 b (j * k) us) d v S := fun ho hne => ho.keep fun t _ hS => putL_block b t (hne t hS) us w1 _
  refine ⟨fun i x => if i = j then g x else G0 i x, by rw [putL_size]; omega, ⟨fun i x t hi hx hG => ?_, fun i x i' y t hi hx hi' hy hG hG' => ?_⟩, fun i hi x hx => ?_, fun t ht => ?_⟩
  · rw [putL_size]
    by_cases he : i = j
    · simp only [if_pos he] at hG
      have := ho.sub x t hx hG
      unfold Span
      omega
    · simp only [if_neg he] at hG
      have := hs0 i x t (by omega) hx hG
      unfold Span
      omega
  · by_cases he : i = j
    · simp only [if_pos he] at hG
      by_cases he' : i' = j
      · simp only [if_pos he'] at hG'
        exact ⟨by omega, ho.dis x y t hx hy hG hG'⟩
      · simp only [if_neg he'] at hG'
        have h1 := ho.sub x t hx hG
        have h2 := (hs0 i' y t (by omega) hy hG').1
        omega
    · simp only [if_neg he] at hG
      by_cases he' : i' = j
      · simp only [if_pos he'] at hG'
        have h1 := ho.sub y t hy hG'
        have h2 := (hs0 i x t (by omega) hx hG).1
        omega
      · simp only [if_neg he'] at hG'
        exact h0.sep.dis i x i' y t (by omega) hx (by omega) hy hG hG'
  · by_cases he : i = j
    · subst he
      simp only [if_pos]
      obtain ⟨u, h1, h2⟩ := ho.own x hx
      refine ⟨u, putL_at b us w1 _ x u (fun y hy => ?_) h1, hkeep h2 fun t ht => ?_⟩
      · obtain ⟨z, hz⟩ := (h0.rest (i * k + y) (by rw [ho.len] at hy; omega)).1
        exact ⟨z, by rw [cell_of_heap eb]; exact hz⟩
      · have := ho.sub x t hx ht
        omega
    · simp only [if_neg he]
      obtain ⟨u, h1, h2⟩ := ho0 i (by omega) x hx
      refine ⟨u, ?_, hkeep (h2.below hb) fun t ht => (hs0 i x t (by omega) hx ht).2⟩
      have hix : i * k + x < j * k := by
        have := Nat.mul_le_mul_right k (show i + 1 ≤ j by omega)
        rw [Nat.add_mul] at this
        omega
      rw [putL_other _ _ _ _ _ (.inl hix), cell_of_heap eb]
      exact h1
  · rw [putL_frozen, frozen_of_heap eb]
    refine ⟨?_, (h0.rest t ht).2⟩
    obtain ⟨z, hz⟩ := (h0.rest t ht).1
    by_cases hin : t < j * k ∨ j * k + us.length ≤ t
    · exact ⟨z, by rw [putL_other _ _ _ _ _ hin, cell_of_heap eb]; exact hz⟩
    · have ht' : t - j * k < us.length := by omega
      refine ⟨us[t - j * k], ?_⟩
      have := putL_at b us w1 (j * k) (t - j * k) us[t - j * k] (fun y hy => by
        obtain ⟨z, hz⟩ := (h0.rest (j * k + y) (by rw [ho.len] at hy; omega)).1
        exact ⟨z, by rw [cell_of_heap eb]; exact hz⟩) (List.getElem?_eq_getElem ht')
      rw [show j * k + (t - j * k) = t by omega] at this
      exact this
theorem Fill.own {b n k : Nat} {D : Nat → Nat → Dat} {w : World} (h : Fill b n k D n w) (hn : n ≤ maxLen) : OwnD b w.heap.size w (.row k n D) (.slice (some ⟨b, 0, none⟩) n n) := by
  obtain ⟨G, h⟩ := h
  refine ⟨_, _, rfl, Nat.le_refl _, hn, fun _ => ⟨b, 0, G, rfl, ⟨Nat.le_refl _, h.lt⟩, h.sep, fun i hi x hx => ?_⟩⟩
  obtain ⟨u, h1, h2⟩ := h.done i hi x hx
  rw [Nat.zero_add]
  refine ⟨(h.rest _ ?_).2, u, h1, h2⟩
  have := Nat.mul_le_mul_right k (show i + 1 ≤ n by omega)
  rw [Nat.add_mul] at this
  omega
end Go.Proofs.Ytagnhfalmefbhaa.Gen
namespace Go.Proofs.Ytagnhfalmefbhaa.Gen
open Go Go.RowKit Go.Proofs.Ytagnhfalmefbhaa.Mem

structure BufG (T : TypeId) (base hi k : Nat) (w : World) (v : Value) (n : Nat) (f : Nat → Nat → Dat) (xs : List Value) (G : Nat → Nat → Nat → Prop) : Prop where
  row : w.ownsRow base T k v n xs
  lt : ∀ b, v.ownBlock = some b → b < hi
  own : ∀ i x, i < n → x < k → ∃ u, xs[i * k + x]? = some u ∧ Owns w (f i x) u (G i x)
  bnd : ∀ i x t, i < n → x < k → G i x t → (base ≤ t ∧ t < hi) ∧ v.ownBlock ≠ some t
  dis : ∀ i x j y t, i < n → x < k → j < n → y < k → G i x t → G j y t → i = j ∧ x = y
/-- The slice v of n elements of k cells, with room for more: its cells are its own, what it leads to lies in blocks of its own, from base on and below hi. -/
def Buf (T : TypeId) (base hi k : Nat) (w : World) (v : Value) (n : Nat) (f : Nat → Nat → Dat) : Prop := ∃ xs G, BufG T base hi k w v n f xs G

section
variable {T : TypeId} {base hi k n : Nat} {w w' : World} {v : Value} {f : Nat → Nat → Dat}
theorem Buf.nil (T : TypeId) (base hi k : Nat) (w : World) (f : Nat → Nat → Dat) : Buf T base hi k w (.slice none 0 0) 0 f :=
  ⟨[], fun _ _ _ => False, World.ownsRow_nil _ _ _ _, fun b h => by simp [Value.ownBlock] at h, fun _ _ h => absurd h (by omega), fun _ _ _ h => absurd h (by omega), fun _ _ _ _ _ h => absurd h (by omega)⟩
theorem Buf.made (T : TypeId) (base k : Nat) (w : World) (f : Nat → Nat → Dat) (hb : base ≤ w.heap.size) : Buf T base (w.heap.size + 1) k (w.alloc (.cells #[] T)) (.slice (some ⟨w.heap.size, 0, none⟩) 0 0) 0 f :=
  ⟨[], fun _ _ _ => False, by simpa using World.ownsRow_lit (e := T) (base := base) (size := k) w #[] 0 hb (by simp) (by simp), fun b h => by simp [Value.ownBlock] at h; omega, fun _ _ h => absurd h (by omega), fun _ _ _ h => absurd h (by omega), fun _ _ _ _ _ h => absurd h (by omega)⟩
theorem Buf.keep (h : Buf T base hi k w v n f) (hk : ∀ t, t < w.heap.size → base ≤ t → t < hi → w'.heap[t]? = w.heap[t]?) : Buf T base hi k w' v n f := by
  obtain ⟨xs, G, h⟩ := h
  refine ⟨xs, G, ⟨h.row.1, ?_⟩, h.lt, fun i x hi' hx => ?_, h.bnd, h.dis⟩
  · rcases h.row.2 with hn | ⟨g, cap, cur, rfl, hb, hg, rest⟩
    · exact .inl hn
    · refine .inr ⟨g, cap, cur, rfl, hb, ?_, rest⟩
      rw [hk g (Array.getElem?_eq_some_iff.1 hg).1 hb (h.lt g rfl)]
      exact hg
  · obtain ⟨u, h1, h2⟩ := h.own i x hi' hx
    exact ⟨u, h1, h2.keep fun t ht hG => hk t ht (h.bnd i x t hi' hx hG).1.1 (h.bnd i x t hi' hx hG).1.2⟩
theorem Buf.below (h : Buf T base hi k w v n f) (hb : Below w.heap.size w w') : Buf T base hi k w' v n f := h.keep fun t ht _ _ => hb.block t ht
theorem Buf.under {B : Nat} (h : Buf T base hi k w v n f) (hb : Below B w w') (hB : hi ≤ B) : Buf T base hi k w' v n f := h.keep fun t _ _ ht => hb.block t (by omega)
theorem Buf.zone {lo' hi' : Nat} (h : Buf T base hi k w v n f) (hz : Zone lo' hi' w w') (hd : hi ≤ lo' ∨ hi' ≤ base) : Buf T base hi k w' v n f := h.keep fun t h0 h1 h2 => hz.block t h0 (by omega)
theorem Buf.drewN (h : Buf T base hi k w v n f) (m : Nat) : Buf T base hi k (w.drewN m) v n f := h.keep fun _ _ _ _ => rfl
theorem Buf.more {hi' : Nat} (h : Buf T base hi k w v n f) (h2 : hi ≤ hi') : Buf T base hi' k w v n f := by
  obtain ⟨xs, G, h⟩ := h
  exact ⟨xs, G, h.row, fun b hb => Nat.lt_of_lt_of_le (h.lt b hb) h2, h.own, fun i x t a b c => ⟨⟨(h.bnd i x t a b c).1.1, Nat.lt_of_lt_of_le (h.bnd i x t a b c).1.2 h2⟩, (h.bnd i x t a b c).2⟩, h.dis⟩
theorem Buf.congr {g : Nat → Nat → Dat} (h : Buf T base hi k w v n f) (e : ∀ i, i < n → ∀ x, x < k → f i x = g i x) : Buf T base hi k w v n g := by
  obtain ⟨xs, G, h⟩ := h
  exact ⟨xs, G, h.row, h.lt, fun i x hi hx => by rw [← e i hi x hx]; exact h.own i x hi hx, h.bnd, h.dis⟩
theorem Buf.owns (h : Buf T base hi k w v n f) : OwnD base hi w (.row k n f) v := by
  obtain ⟨xs, G, h⟩ := h
  rcases h.row.2 with ⟨rfl, rfl⟩ | ⟨g, cap, cur, rfl, hb, hg, hnc, hcm, _⟩
  · exact ⟨none, 0, rfl, Nat.le_refl _, Nat.zero_le _, fun h0 => absurd h0 (by omega)⟩
  · refine ⟨_, cap, rfl, hnc, hcm, fun _ => ⟨g, 0, G, rfl, ⟨hb, h.lt g rfl⟩, ⟨fun i x t hi' hx hG => ⟨⟨(h.bnd i x t hi' hx hG).1.1, (h.bnd i x t hi' hx hG).1.2⟩, fun e => (h.bnd i x t hi' hx hG).2 (by simp [Value.ownBlock, e])⟩, h.dis⟩, fun i hi' x hx => ?_⟩⟩
    obtain ⟨u, h1, h2⟩ := h.own i x hi' hx
    have hlt : i * k + x < xs.length := (List.getElem?_eq_some_iff.1 h1).1
    rw [Nat.zero_add]
    exact ⟨h.row.frozenAt _, u, by rw [h.row.cellAt _ (by rw [← h.row.1]; exact hlt)]; exact h1, h2⟩
theorem Buf.shape (h : Buf T base hi k w v n f) : ∃ A c, v = .slice A n c ∧ n ≤ c ∧ c ≤ maxLen := by
  obtain ⟨A, c, e, h1, h2, _⟩ := h.owns
  exact ⟨A, c, e, h1, h2⟩

/-- One element more. -/
def snoc (n : Nat) (f : Nat → Nat → Dat) (D : Nat → Dat) : Nat → Nat → Dat := fun i => if i < n then f i else D
theorem Buf.join {M : Nat} {D : Nat → Dat} {g : Nat → Nat → Prop} {us : List Value} {xs : List Value} {G : Nat → Nat → Nat → Prop} {v' : Value} (h : BufG T base M k w v n f xs G) (hbM : base ≤ M) (hM : M ≤ w.heap.size) (hF : Fresh M w.heap.size k g D us w)
    (hr : w'.ownsRow base T k v' (n + 1) (xs ++ us)) (hg : w.grownBy w' v.ownBlock) (hat : v'.ownBlock = v.ownBlock ∨ v'.ownBlock = some w.heap.size) : Buf T base w'.heap.size k w' v' (n + 1) (snoc n f D) := by
  have hsz := hg.size
  have hxl : xs.length = n * k := h.row.1
  have hne : ∀ t, t < w.heap.size → v.ownBlock ≠ some t → v'.ownBlock ≠ some t := fun t ht hv => by
    rcases hat with e | e
    · rw [e]; exact hv
    · rw [e]; intro e2; injection e2 with e2; omega
  have hold : ∀ i x t, i < n → x < k → G i x t → (base ≤ t ∧ t < M) ∧ v.ownBlock ≠ some t := h.bnd
  have hnew : ∀ x t, x < k → g x t → (M ≤ t ∧ t < w.heap.size) ∧ v.ownBlock ≠ some t := fun x t hx ht => by
    have h1 := hF.sub x t hx ht
    refine ⟨h1, fun e => ?_⟩
    have := h.lt t e
    omega
  refine ⟨xs ++ us, fun i x => if i < n then G i x else g x, hr, fun b hb => (hr.lt b hb).2, fun i x hi' hx => ?_, fun i x t hi' hx hG => ?_, fun i x j y t hi' hx hj hy hG hG' => ?_⟩
  · by_cases he : i < n
    · obtain ⟨u, h1, h2⟩ := h.own i x he hx
      have hlt : i * k + x < xs.length := (List.getElem?_eq_some_iff.1 h1).1
      simp only [snoc, if_pos he]
      refine ⟨u, by rw [List.getElem?_append_left hlt]; exact h1, h2.keep fun t ht hG => hg.block t ht fun e => (hold i x t he hx hG).2 e.symm⟩
    · obtain rfl : i = n := by omega
      obtain ⟨u, h1, h2⟩ := hF.own x hx
      simp only [snoc, if_neg he]
      refine ⟨u, by rw [List.getElem?_append_right (by omega), hxl, Nat.add_sub_cancel_left]; exact h1, h2.keep fun t ht hG => hg.block t ht fun e => (hnew x t hx hG).2 e.symm⟩
  · by_cases he : i < n
    · simp only [if_pos he] at hG
      have := hold i x t he hx hG
      exact ⟨⟨this.1.1, by omega⟩, hne t (by omega) this.2⟩
    · simp only [if_neg he] at hG
      have := hnew x t hx hG
      exact ⟨⟨by omega, by omega⟩, hne t this.1.2 this.2⟩
  · by_cases he : i < n
    · simp only [if_pos he] at hG
      by_cases hj' : j < n
      · simp only [if_pos hj'] at hG'
        exact h.dis i x j y t he hx hj' hy hG hG'
      · simp only [if_neg hj'] at hG'
        have a1 := (hold i x t he hx hG).1
        have a2 := (hnew y t hy hG').1
        omega
    · simp only [if_neg he] at hG
      by_cases hj' : j < n
      · simp only [if_pos hj'] at hG'
        have a1 := (hold j y t hj' hy hG').1
        have a2 := (hnew x t hx hG).1
        omega
      · simp only [if_neg hj'] at hG'
        exact ⟨by omega, hF.dis x y t hx hy hG hG'⟩
end

section
variable {P : Program} {T : TypeId} {base M k n b2 c : Nat} {w : World} {v : Value} {f : Nat → Nat → Dat} {D : Nat → Dat} {g : Nat → Nat → Prop} {us : List Value}
theorem run_append_el (t ty : TypeId) (i : TypeInfo) (z : Value) (bytes : Nat) (ht : P.underlying t = some (.slice T)) (hi : P.info? T = some i) (hz : i.zero = some z) (hsize : i.size = k) (hby : i.bytes = bytes) (hzs : z.cells.size = k) (hk : 0 < k) (hb128 : bytes ≤ 128)
    (h : Buf T base M k w v n f) (hbM : base ≤ M) (hM : M ≤ w.heap.size) (hF : Fresh M w.heap.size k g D us w) (hc : ∀ j u, us[j]? = some u → w.cell? ⟨b2, j, none⟩ = some u) (h1 : ∀ u ∈ us, u.oneCell' = true) (hn : n + 1 ≤ 1048576) :
    ∃ v' w', (Builtin.append_ #[t, t] ty #[v, .slice (some ⟨b2, 0, none⟩) 1 c]).run P w = .ok v' w' ∧ Buf T base w'.heap.size k w' v' (n + 1) (snoc n f D) ∧ Below base w w' ∧ (∀ t, t < w.heap.size → v.ownBlock ≠ some t → w'.heap[t]? = w.heap[t]?) := by
  obtain ⟨xs, G, h⟩ := h
  have hb : (n + 1) * bytes ≤ 140737488355328 := by
    have := Nat.mul_le_mul hn hb128
    omega
  obtain ⟨v', w', hr, h2, h3, _, h5⟩ := run_append_own_at (P := P) w base t ty T i z k bytes ht hi hz hsize hby hzs hk v n xs h.row ⟨b2, 0, none⟩ 1 c us (by rw [hF.len]; omega) (fun j u hu => by rw [add_pl, Nat.zero_add]; exact hc j u hu) h1 (by unfold maxLen; omega) hb (by omega)
  exact ⟨v', w', hr, Buf.join h hbM hM hF h2 h3 h5, (Below.refl _ _).grown h3 (by omega) (fun q hq => (h.row.lt q hq).1), fun t ht hne => h3.block t ht fun e => hne e.symm⟩
theorem wpList_append_el {ops : Array Oper} {rest : List Oper} {o : Oper} {a : Act} {Q : Exit → Act → World → Prop} (hgd : o.guard = none) (s x : Operand) (t : TypeId)
    (ho : o.op = .call { callee := .builtin .append, args := #[s, x], argTypes := #[t, t] })
    (i : TypeInfo) (z : Value) (bytes : Nat) (ht : P.underlying t = some (.slice T)) (hi : P.info? T = some i) (hz : i.zero = some z) (hsize : i.size = k) (hby : i.bytes = bytes) (hzs : z.cells.size = k) (hk : 0 < k) (hb128 : bytes ≤ 128)
    (h : Buf T base M k w v n f) (hbM : base ≤ M) (hM : M ≤ w.heap.size) (hF : Fresh M w.heap.size k g D us w) (hc : ∀ j u, us[j]? = some u → w.cell? ⟨b2, j, none⟩ = some u) (h1 : ∀ u ∈ us, u.oneCell' = true) (hn : n + 1 ≤ 1048576)
    (hs : a.eval s = v) (hx : a.eval x = .slice (some ⟨b2, 0, none⟩) 1 c)
    (hK : ∀ v' w', Buf T base w'.heap.size k w' v' (n + 1) (snoc n f D) → Below base w w' → (∀ t, t < w.heap.size → v.ownBlock ≠ some t → w'.heap[t]? = w.heap[t]?) → wpList P ops Q rest (a.put o.dst v') w') :
    wpList P ops Q (o :: rest) a w := by
  refine wpList_plain hgd fun K hK' => ?_
  obtain ⟨v', w', hr, h2, h3, h4⟩ := run_append_el (P := P) (c := c) t o.type i z bytes ht hi hz hsize hby hzs hk hb128 h hbM hM hF hc h1 hn
  unfold Oper.wp execOp
  simp only [ho, resolve, invoke, builtin, Sem.run_bind, Sem.run_pure, Result.andThen_ok, List.map_toArray, List.map_cons, List.map_nil, hs, hx, hr]
  exact hK' _ _ (hK v' w' h2 h3 h4)
theorem step_append_el {ops : Array Oper} {o : Oper} {a : Act} {K : Act → World → Prop} {Q : Exit → Act → World → Prop} {E : Prop} (hgd : o.guard = none) (s x : Operand) (t : TypeId)
    (ho : o.op = .call { callee := .builtin .append, args := #[s, x], argTypes := #[t, t] })
    (i : TypeInfo) (z : Value) (bytes : Nat) (ht : P.underlying t = some (.slice T)) (hi : P.info? T = some i) (hz : i.zero = some z) (hsize : i.size = k) (hby : i.bytes = bytes) (hzs : z.cells.size = k) (hk : 0 < k) (hb128 : bytes ≤ 128)
    (h : Buf T base M k w v n f) (hbM : base ≤ M) (hM : M ≤ w.heap.size) (hF : Fresh M w.heap.size k g D us w) (hc : ∀ j u, us[j]? = some u → w.cell? ⟨b2, j, none⟩ = some u) (h1 : ∀ u ∈ us, u.oneCell' = true) (hn : n + 1 ≤ 1048576)
    (hs : a.eval s = v) (hx : a.eval x = .slice (some ⟨b2, 0, none⟩) 1 c)
    (hK : ∀ v' w', Buf T base w'.heap.size k w' v' (n + 1) (snoc n f D) → Below base w w' → (∀ t, t < w.heap.size → v.ownBlock ≠ some t → w'.heap[t]? = w.heap[t]?) → K (a.put o.dst v') w') :
    if Region.wanted o (yielded ops a.tmps) = true then Oper.wp P o a w K Q else E := by
  have hw : Region.wanted o (yielded ops a.tmps) = true := by simp [Region.wanted, hgd]
  rw [if_pos hw]
  obtain ⟨v', w', hr, h2, h3, h4⟩ := run_append_el (P := P) (c := c) t o.type i z bytes ht hi hz hsize hby hzs hk hb128 h hbM hM hF hc h1 hn
  unfold Oper.wp execOp
  simp only [ho, resolve, invoke, builtin, Sem.run_bind, Sem.run_pure, Result.andThen_ok, List.map_toArray, List.map_cons, List.map_nil, hs, hx, hr]
  exact hK v' w' h2 h3 h4
end
end Go.Proofs.Ytagnhfalmefbhaa.Gen
