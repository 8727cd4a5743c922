/-
  Words for data of any depth in memory: numbers, truth values, texts, rows of them, rows of structs with rows inside; what can be read, what is a call's own.
  Conditions: none; nothing of the program stands here.
-/
import Derived.Test.YtpemjlmopnndbaaDoorMem
namespace Go.Proofs.YtpemjlmopnndbaaDoor.Gen
open Go Go.RowKit Go.Proofs.YtpemjlmopnndbaaDoor.Mem

/-- What lies in a cell; 'row k n f': a slice of n elements of k cells each. -/
inductive Dat where
  | int (z : Int)
  | bool (b : Bool)
  | str (s : ByteArray)
  | row (k n : Nat) (f : Nat → Nat → Dat)

/-- The value v reads as d; what it needs lies in blocks from lo on and below hi. -/
def Lies (lo hi : Nat) (w : World) : Dat → Value → Prop
  | .int z, v => v = .int .i64 z ∧ (Lit.int .i64 z).wf = true
  | .bool b, v => v = .bool b
  | .str s, v => v = .string s
  | .row k n f, v => ∃ A c, v = .slice A n c ∧ n ≤ c ∧ c ≤ maxLen ∧ (0 < n → ∃ b off, A = some ⟨b, off, none⟩ ∧ lo ≤ b ∧ b < hi ∧ ∀ i, i < n → ∀ x, x < k → ∃ u, w.cell? ⟨b, off + i * k + x, none⟩ = some u ∧ Lies lo hi w (f i x) u)

/-- No row below lies in the block b or in two places. -/
structure Apart (S : Nat → Prop) (b n k : Nat) (G : Nat → Nat → Nat → Prop) : Prop where
  sub : ∀ i x t, i < n → x < k → G i x t → S t ∧ t ≠ b
  dis : ∀ i x j y t, i < n → x < k → j < n → y < k → G i x t → G j y t → i = j ∧ x = y

/-- The same of what may be written; its blocks are among S. -/
def Owns (w : World) : Dat → Value → (Nat → Prop) → Prop
  | .int z, v, _ => v = .int .i64 z ∧ (Lit.int .i64 z).wf = true
  | .bool b, v, _ => v = .bool b
  | .str s, v, _ => v = .string s
  | .row k n f, v, S => ∃ A c, v = .slice A n c ∧ n ≤ c ∧ c ≤ maxLen ∧ (0 < n → ∃ b off, ∃ G : Nat → Nat → Nat → Prop, A = some ⟨b, off, none⟩ ∧ S b ∧ Apart S b n k G ∧ ∀ i, i < n → ∀ x, x < k → w.frozen? ⟨b, off + i * k + x, none⟩ = false ∧ ∃ u, w.cell? ⟨b, off + i * k + x, none⟩ = some u ∧ Owns w (f i x) u (G i x))

/-- Of the blocks that were there, those of S alone may have changed. -/
structure Turn (S : Nat → Prop) (w w' : World) : Prop where
  os : w'.os = w.os
  tape : w'.tape = w.tape
  output : w'.output = w.output
  size : w.heap.size ≤ w'.heap.size
  block : ∀ t, t < w.heap.size → ¬ S t → w'.heap[t]? = w.heap[t]?

def Span (lo hi : Nat) : Nat → Prop := fun t => lo ≤ t ∧ t < hi

theorem Turn.refl (S : Nat → Prop) (w : World) : Turn S w w := ⟨rfl, rfl, rfl, Nat.le_refl _, fun _ _ _ => rfl⟩
theorem Turn.trans {S : Nat → Prop} {a b c : World} (h : Turn S a b) (k : Turn S b c) : Turn S a c :=
  ⟨k.os.trans h.os, k.tape.trans h.tape, k.output.trans h.output, Nat.le_trans h.size k.size, fun t ht hn => (k.block t (Nat.lt_of_lt_of_le ht h.size) hn).trans (h.block t ht hn)⟩
theorem Turn.mono {S S' : Nat → Prop} {a b : World} (h : Turn S a b) (hs : ∀ t, S t → S' t) : Turn S' a b := ⟨h.os, h.tape, h.output, h.size, fun t ht hn => h.block t ht fun hS => hn (hs t hS)⟩
theorem Turn.zone {lo hi : Nat} {a b : World} (h : Turn (Span lo hi) a b) : Zone lo hi a b := ⟨h.os, h.tape, h.output, h.size, fun t ht hn => h.block t ht fun hS => by unfold Span at hS; omega⟩
theorem Turn.of_zone {lo hi : Nat} {S : Nat → Prop} {a b : World} (h : Zone lo hi a b) (hs : ∀ t, lo ≤ t → t < hi → S t) : Turn S a b :=
  ⟨h.os, h.tape, h.output, h.size, fun t ht hn => h.block t ht (by
    rcases Nat.lt_or_ge t lo with h1 | h1
    · exact .inl h1
    · rcases Nat.lt_or_ge t hi with h2 | h2
      · exact absurd (hs t h1 h2) hn
      · exact .inr h2)⟩
theorem Turn.of_below {S : Nat → Prop} {w w' : World} (h : Below w.heap.size w w') : Turn S w w' := ⟨h.os, h.tape, h.output, h.size, fun t ht _ => h.block t ht⟩
theorem Turn.setCell {S : Nat → Prop} {w w' : World} (h : Turn S w w') {b o : Nat} (hb : S b) (v : Value) : Turn S w (w'.setCell ⟨b, o, none⟩ v) :=
  ⟨h.os, h.tape, h.output, by simpa [World.setCell] using h.size, fun t ht hn => by rw [Below.heap_setCell _ _ _ _ (fun e => hn (by subst e; exact hb))]; exact h.block t ht hn⟩
theorem Turn.drewN {S : Nat → Prop} {w w' : World} (h : Turn S w w') (n : Nat) : Turn S w (w'.drewN n) := ⟨h.os, h.tape, h.output, h.size, h.block⟩
theorem Turn.below {S : Nat → Prop} {B : Nat} {w w' : World} (h : Turn S w w') (hs : ∀ t, S t → B ≤ t) (hB : B ≤ w.heap.size) : Below B w w' :=
  ⟨h.os, h.tape, h.output, h.size, fun t ht => h.block t (by omega) fun hS => by have := hs t hS; omega⟩

section
variable {lo hi B : Nat} {w w' : World} {S S' : Nat → Prop}
theorem Lies.keep {d : Dat} : ∀ {v : Value}, Lies lo hi w d v → (∀ i, i < w.heap.size → lo ≤ i → i < hi → w'.heap[i]? = w.heap[i]?) → Lies lo hi w' d v := by
  induction d with
  | int z => exact fun h _ => h
  | bool b => exact fun h _ => h
  | str s => exact fun h _ => h
  | row k n f ih =>
    rintro v ⟨A, c, rfl, h1, h2, h3⟩ hk
    refine ⟨A, c, rfl, h1, h2, fun hn => ?_⟩
    obtain ⟨b, off, e1, e2, e3, e4⟩ := h3 hn
    refine ⟨b, off, e1, e2, e3, fun i hi' x hx => ?_⟩
    obtain ⟨u, g1, g2⟩ := e4 i hi' x hx
    exact ⟨u, by rw [cell_of_heap (hk b (cell_lt g1) e2 e3)]; exact g1, ih i x g2 hk⟩
theorem Lies.more {lo' hi' : Nat} {d : Dat} (h1 : lo' ≤ lo) (h2 : hi ≤ hi') : ∀ {v : Value}, Lies lo hi w d v → Lies lo' hi' w d v := by
  induction d with
  | int z => exact fun h => h
  | bool b => exact fun h => h
  | str s => exact fun h => h
  | row k n f ih =>
    rintro v ⟨A, c, rfl, g1, g2, h3⟩
    refine ⟨A, c, rfl, g1, g2, fun hn => ?_⟩
    obtain ⟨b, off, e1, e2, e3, e4⟩ := h3 hn
    refine ⟨b, off, e1, by omega, by omega, fun i hi' x hx => ?_⟩
    obtain ⟨u, g1, g2⟩ := e4 i hi' x hx
    exact ⟨u, g1, ih i x g2⟩
theorem Lies.below {d : Dat} {v : Value} (h : Lies lo hi w d v) (hb : Below w.heap.size w w') : Lies lo hi w' d v := h.keep fun i hi _ _ => hb.block i hi
theorem Lies.under {d : Dat} {v : Value} (h : Lies lo hi w d v) (hb : Below B w w') (hB : hi ≤ B) : Lies lo hi w' d v := h.keep fun i _ _ h2 => hb.block i (by omega)
theorem Lies.zone {lo' hi' : Nat} {d : Dat} {v : Value} (h : Lies lo hi w d v) (hz : Zone lo' hi' w w') (hd : hi ≤ lo' ∨ hi' ≤ lo) : Lies lo hi w' d v := h.keep fun i h0 h1 h2 => hz.block i h0 (by omega)
theorem Lies.turn {d : Dat} {v : Value} (h : Lies lo hi w d v) (ht : Turn S w w') (hd : ∀ t, S t → lo ≤ t → t < hi → False) : Lies lo hi w' d v := h.keep fun i h0 h1 h2 => ht.block i h0 fun hS => hd i hS h1 h2
theorem Lies.drewN {d : Dat} {v : Value} (h : Lies lo hi w d v) (m : Nat) : Lies lo hi (w.drewN m) d v := h.keep fun _ _ _ _ => rfl
theorem Lies.congr {k n : Nat} {f g : Nat → Nat → Dat} {v : Value} (h : Lies lo hi w (.row k n f) v) (e : ∀ i, i < n → ∀ x, x < k → f i x = g i x) : Lies lo hi w (.row k n g) v := by
  obtain ⟨A, c, rfl, h1, h2, h3⟩ := h
  refine ⟨A, c, rfl, h1, h2, fun hn => ?_⟩
  obtain ⟨b, off, e1, e2, e3, e4⟩ := h3 hn
  exact ⟨b, off, e1, e2, e3, fun i hi x hx => by rw [← e i hi x hx]; exact e4 i hi x hx⟩

theorem Owns.keep {d : Dat} : ∀ {v : Value} {S : Nat → Prop}, Owns w d v S → (∀ t, t < w.heap.size → S t → w'.heap[t]? = w.heap[t]?) → Owns w' d v S := by
  induction d with
  | int z => exact fun h _ => h
  | bool b => exact fun h _ => h
  | str s => exact fun h _ => h
  | row k n f ih =>
    rintro v S ⟨A, c, rfl, h1, h2, h3⟩ hk
    refine ⟨A, c, rfl, h1, h2, fun hn => ?_⟩
    obtain ⟨b, off, G, e1, e2, e3, e4⟩ := h3 hn
    refine ⟨b, off, G, e1, e2, e3, fun i hi' x hx => ?_⟩
    obtain ⟨g0, u, g1, g2⟩ := e4 i hi' x hx
    have e := hk b (cell_lt g1) e2
    exact ⟨by rw [frozen_of_heap e]; exact g0, u, by rw [cell_of_heap e]; exact g1, ih i x g2 fun t ht hG => hk t ht (e3.sub i x t hi' hx hG).1⟩
theorem Owns.mono {d : Dat} : ∀ {v : Value} {S S' : Nat → Prop}, Owns w d v S → (∀ t, S t → S' t) → Owns w d v S' := by
  cases d with
  | int z => exact fun h _ => h
  | bool b => exact fun h _ => h
  | str s => exact fun h _ => h
  | row k n f =>
    rintro v S S' ⟨A, c, rfl, h1, h2, h3⟩ hs
    refine ⟨A, c, rfl, h1, h2, fun hn => ?_⟩
    obtain ⟨b, off, G, e1, e2, e3, e4⟩ := h3 hn
    exact ⟨b, off, G, e1, hs b e2, ⟨fun i x t hi hx hG => ⟨hs t (e3.sub i x t hi hx hG).1, (e3.sub i x t hi hx hG).2⟩, e3.dis⟩, e4⟩
theorem Owns.lies {d : Dat} : ∀ {v : Value} {S : Nat → Prop}, Owns w d v S → (∀ t, S t → lo ≤ t ∧ t < hi) → Lies lo hi w d v := by
  induction d with
  | int z => exact fun h _ => h
  | bool b => exact fun h _ => h
  | str s => exact fun h _ => h
  | row k n f ih =>
    rintro v S ⟨A, c, rfl, h1, h2, h3⟩ hs
    refine ⟨A, c, rfl, h1, h2, fun hn => ?_⟩
    obtain ⟨b, off, G, e1, e2, e3, e4⟩ := h3 hn
    refine ⟨b, off, e1, (hs b e2).1, (hs b e2).2, fun i hi' x hx => ?_⟩
    obtain ⟨_, u, g1, g2⟩ := e4 i hi' x hx
    exact ⟨u, g1, ih i x g2 fun t hG => hs t (e3.sub i x t hi' hx hG).1⟩
theorem Owns.congr {k n : Nat} {f g : Nat → Nat → Dat} {v : Value} (h : Owns w (.row k n f) v S) (e : ∀ i, i < n → ∀ x, x < k → f i x = g i x) : Owns w (.row k n g) v S := by
  obtain ⟨A, c, rfl, h1, h2, h3⟩ := h
  refine ⟨A, c, rfl, h1, h2, fun hn => ?_⟩
  obtain ⟨b, off, G, e1, e2, e3, e4⟩ := h3 hn
  exact ⟨b, off, G, e1, e2, e3, fun i hi x hx => by rw [← e i hi x hx]; exact e4 i hi x hx⟩
theorem Owns.below {d : Dat} {v : Value} (h : Owns w d v S) (hb : Below w.heap.size w w') : Owns w' d v S := h.keep fun t ht _ => hb.block t ht
theorem Owns.under {d : Dat} {v : Value} (h : Owns w d v S) (hb : Below B w w') (hB : ∀ t, S t → t < B) : Owns w' d v S := h.keep fun t _ hS => hb.block t (hB t hS)
theorem Owns.turn {d : Dat} {v : Value} (h : Owns w d v S) (ht : Turn S' w w') (hd : ∀ t, S t → ¬ S' t) : Owns w' d v S := h.keep fun t h0 hS => ht.block t h0 (hd t hS)
theorem Owns.zone {lo hi : Nat} {d : Dat} {v : Value} (h : Owns w d v S) (hz : Zone lo hi w w') (hd : ∀ t, S t → t < lo ∨ hi ≤ t) : Owns w' d v S := h.keep fun t h0 hS => hz.block t h0 (hd t hS)
theorem Owns.drewN {d : Dat} {v : Value} (h : Owns w d v S) (m : Nat) : Owns (w.drewN m) d v S := h.keep fun _ _ _ => rfl
end

/-- What is the call's own: in blocks from lo on and below hi. -/
abbrev OwnD (lo hi : Nat) (w : World) (d : Dat) (v : Value) : Prop := Owns w d v (Span lo hi)
section
variable {lo hi B : Nat} {w w' : World} {d : Dat} {v : Value}
theorem OwnD.lies (h : OwnD lo hi w d v) : Lies lo hi w d v := Owns.lies h fun _ hS => hS
theorem OwnD.more {lo' hi' : Nat} (h : OwnD lo hi w d v) (h1 : lo' ≤ lo) (h2 : hi ≤ hi') : OwnD lo' hi' w d v := Owns.mono h fun t hS => by unfold Span at *; omega
theorem OwnD.under (h : OwnD lo hi w d v) (hb : Below B w w') (hB : hi ≤ B) : OwnD lo hi w' d v := Owns.under h hb fun t hS => by unfold Span at hS; omega
theorem OwnD.zone {lo' hi' : Nat} (h : OwnD lo hi w d v) (hz : Zone lo' hi' w w') (hd : hi ≤ lo' ∨ hi' ≤ lo) : OwnD lo hi w' d v := Owns.zone h hz fun t hS => by unfold Span at hS; omega
end

/-- What a call hands back: a value of its own. -/
def Given (lo : Nat) (d : Dat) (w : World) (e : Ending) (w' : World) : Prop :=
  ∃ v, e = .returned v ∧ OwnD lo w'.heap.size w' d v ∧ Below lo w w'

/-- A row of integers. -/
def ints (zs : List Int) : Dat := .row 1 zs.length fun i _ => .int (zs.getD i 0)
section
variable {lo hi n c : Nat} {w : World} {A : Option Addr} {zs : List Int}
theorem lies_int {z : Int} {v : Value} (h : Lies lo hi w (.int z) v) : v = .int .i64 z ∧ (Lit.int .i64 z).wf = true := h
theorem lies_bool {b : Bool} {v : Value} (h : Lies lo hi w (.bool b) v) : v = .bool b := h
theorem lies_ints {v : Value} (h : Lies lo hi w (ints zs) v) : ∃ A c, v = .slice A zs.length c := by
  obtain ⟨A, c, e, _⟩ := h; exact ⟨A, c, e⟩
theorem owns_int {S : Nat → Prop} {z : Int} {v : Value} (h : Owns w (.int z) v S) : v = .int .i64 z ∧ (Lit.int .i64 z).wf = true := h
theorem owns_bool {S : Nat → Prop} {b : Bool} {v : Value} (h : Owns w (.bool b) v S) : v = .bool b := h
theorem owns_ints {S : Nat → Prop} {v : Value} (h : Owns w (ints zs) v S) : ∃ A c, v = .slice A zs.length c := by
  obtain ⟨A, c, e, _⟩ := h; exact ⟨A, c, e⟩
theorem Lies.of_row (h : Row .i64 lo hi w A n zs) (h1 : n ≤ c) (h2 : c ≤ maxLen) : Lies lo hi w (ints zs) (.slice A n c) := by
  obtain ⟨rfl, h4, h5⟩ := h
  refine ⟨A, c, rfl, h1, h2, fun hn => ?_⟩
  obtain ⟨b, off, e1, e2, e3, e4⟩ := h5 hn
  refine ⟨b, off, e1, e2, e3, fun i hi x hx => ?_⟩
  obtain rfl : x = 0 := by omega
  refine ⟨_, by rw [Nat.mul_one, Nat.add_zero]; exact e4 i hi, rfl, h4 _ ?_⟩
  rw [List.getD_eq_getElem?_getD, List.getElem?_eq_getElem hi]
  exact List.getElem_mem _
theorem Lies.row {v : Value} (h : Lies lo hi w (ints zs) v) : ∃ A c, v = .slice A zs.length c ∧ zs.length ≤ c ∧ c ≤ maxLen ∧ Row .i64 lo hi w A zs.length zs := by
  obtain ⟨A, c, rfl, h1, h2, h3⟩ := h
  refine ⟨A, c, rfl, h1, h2, rfl, fun z hz => ?_, fun hn => ?_⟩
  · obtain ⟨i, hi, rfl⟩ := List.getElem_of_mem hz
    obtain ⟨b, off, _, _, _, e4⟩ := h3 (by omega)
    obtain ⟨u, _, g2⟩ := e4 i hi 0 (by omega)
    have := g2.2
    rwa [List.getD_eq_getElem?_getD, List.getElem?_eq_getElem hi] at this
  · obtain ⟨b, off, e1, e2, e3, e4⟩ := h3 hn
    refine ⟨b, off, e1, e2, e3, fun i hi => ?_⟩
    obtain ⟨u, g1, g2⟩ := e4 i hi 0 (by omega)
    rw [Nat.mul_one, Nat.add_zero] at g1
    rw [g1, g2.1]
theorem Lies.row' (h : Lies lo hi w (ints zs) (.slice A zs.length c)) : Row .i64 lo hi w A zs.length zs ∧ zs.length ≤ c ∧ c ≤ maxLen := by
  obtain ⟨A', c', e, h1, h2, h3⟩ := h.row
  injection e with e1 _ e3
  subst e1 e3
  exact ⟨h3, h1, h2⟩
theorem Owns.of_row {S : Nat → Prop} (h : Own .i64 lo hi w A n zs) (h1 : n ≤ c) (h2 : c ≤ maxLen) (hS : ∀ t, lo ≤ t → t < hi → S t) : Owns w (ints zs) (.slice A n c) S := by
  obtain ⟨rfl, h4, h5⟩ := h
  refine ⟨A, c, rfl, h1, h2, fun hn => ?_⟩
  obtain ⟨b, off, e1, e2, e3, e4⟩ := h5 hn
  refine ⟨b, off, fun _ _ _ => False, e1, hS b e2 e3, ⟨fun _ _ _ _ _ h => h.elim, fun _ _ _ _ _ _ _ _ _ h => h.elim⟩, fun i hi x hx => ?_⟩
  obtain rfl : x = 0 := by omega
  rw [Nat.mul_one, Nat.add_zero]
  refine ⟨(e4 i hi).2, _, (e4 i hi).1, rfl, h4 _ ?_⟩
  rw [List.getD_eq_getElem?_getD, List.getElem?_eq_getElem hi]
  exact List.getElem_mem _
theorem Owns.row {S : Nat → Prop} {v : Value} (h : Owns w (ints zs) v S) : ∃ A c lo hi, v = .slice A zs.length c ∧ zs.length ≤ c ∧ c ≤ maxLen ∧ Own .i64 lo hi w A zs.length zs ∧ (∀ t, lo ≤ t → t < hi → S t) := by
  obtain ⟨A, c, rfl, h1, h2, h3⟩ := h
  have hwf : ∀ z ∈ zs, (Lit.int .i64 z).wf = true := fun z hz => by
    obtain ⟨i, hi, rfl⟩ := List.getElem_of_mem hz
    obtain ⟨b, off, G, _, _, _, e4⟩ := h3 (by omega)
    obtain ⟨_, u, _, g2⟩ := e4 i hi 0 (by omega)
    have := g2.2
    rwa [List.getD_eq_getElem?_getD, List.getElem?_eq_getElem hi] at this
  rcases Nat.eq_zero_or_pos zs.length with h0 | hp
  · exact ⟨A, c, 0, 0, rfl, h1, h2, ⟨rfl, hwf, fun h => absurd h (by omega)⟩, fun t _ h => absurd h (by omega)⟩
  · obtain ⟨b, off, G, e1, e2, _, e4⟩ := h3 hp
    refine ⟨A, c, b, b + 1, rfl, h1, h2, ⟨rfl, hwf, fun _ => ⟨b, off, e1, Nat.le_refl _, Nat.lt_succ_self _, fun i hi => ?_⟩⟩, fun t ht1 ht2 => by rw [show t = b by omega]; exact e2⟩
    obtain ⟨g0, u, g1, g2⟩ := e4 i hi 0 (by omega)
    rw [Nat.mul_one, Nat.add_zero] at g0 g1
    exact ⟨by rw [g1, g2.1], g0⟩
end
end Go.Proofs.YtpemjlmopnndbaaDoor.Gen
