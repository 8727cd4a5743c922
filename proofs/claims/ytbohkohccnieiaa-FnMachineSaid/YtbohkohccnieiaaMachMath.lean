/-
  The machine: which states are valid, what a step needs, what it makes of a state. Plain mathematics.
  Conditions: none; nothing of the program stands here.
-/
import Derived.Test.YtbohkohccnieiaaScriptMath
import Derived.Test.YtbohkohccnieiaaGStateFar
import Derived.Test.YtbohkohccnieiaaGWant
namespace Go.Proofs.Ytbohkohccnieiaa.Mach
open Go Go.RowKit Go.Proofs.Ytbohkohccnieiaa.Mem Go.Proofs.Ytbohkohccnieiaa.Gen Go.Proofs.Ytbohkohccnieiaa.Scripts

/-- So many integers, each from 0 to 999. -/
def cellsB (n : Int) (l : List Int) : Bool := l.all (inR 0 999) && decide ((l.length : Int) = n)
def AllIn (l : List Int) (j : Nat) : Prop := ∀ i, i < j → inR 0 999 (l.getD i 0) = true
theorem AllIn.zero (l : List Int) : AllIn l 0 := fun i h => absurd h (by omega)
theorem AllIn.next {l : List Int} {j : Nat} (h : AllIn l j) (hj : inR 0 999 (l.getD j 0) = true) : AllIn l (j + 1) := fun i hi => by
  by_cases he : i = j
  · subst he; exact hj
  · exact h i (by omega)
theorem cellsB_no {n : Int} {l : List Int} {j : Nat} (hj : j < l.length) (h : inR 0 999 (l.getD j 0) = false) : cellsB n l = false := by
  cases hs : cellsB n l with
  | false => rfl
  | true =>
    unfold cellsB at hs
    simp only [Bool.and_eq_true, List.all_eq_true] at hs
    have := hs.1 (l.getD j 0) (by rw [List.getD_eq_getElem?_getD, List.getElem?_eq_getElem hj]; exact List.getElem_mem _)
    rw [h] at this
    cases this
theorem AllIn.end {n : Int} {l : List Int} {j : Nat} (h : AllIn l j) (hj : l.length ≤ j) : cellsB n l = decide ((l.length : Int) = n) := by
  unfold cellsB
  rw [show l.all (inR 0 999) = true from List.all_eq_true.2 fun P hP => ?_, Bool.true_and]
  obtain ⟨i, hi, rfl⟩ := List.getElem_of_mem hP
  have := h i (by omega)
  rw [List.getD_eq_getElem?_getD, List.getElem?_eq_getElem hi] at this
  exact this
theorem cellsB_at {n : Int} {l : List Int} (h : cellsB n l = true) : (l.length : Int) = n ∧ ∀ z ∈ l, 0 ≤ z ∧ z ≤ 999 := by
  unfold cellsB at h
  simp only [Bool.and_eq_true, List.all_eq_true, decide_eq_true_eq] at h
  exact ⟨h.2, fun z hz => by have := h.1 z hz; unfold inR at this; simpa using this⟩
theorem cellsB_get {n : Int} {l : List Int} (h : cellsB n l = true) {j : Nat} (hj : j < l.length) : 0 ≤ l.getD j 0 ∧ l.getD j 0 ≤ 999 := by
  refine (cellsB_at h).2 _ ?_
  rw [List.getD_eq_getElem?_getD, List.getElem?_eq_getElem hj]; exact List.getElem_mem _
theorem cellsB_mk {n : Int} {l : List Int} (h0 : (l.length : Int) = n) (h : ∀ z ∈ l, 0 ≤ z ∧ z ≤ 999) : cellsB n l = true := by
  unfold cellsB
  simp only [Bool.and_eq_true, List.all_eq_true, decide_eq_true_eq]
  exact ⟨fun z hz => inR_yes (h z hz).1 (h z hz).2, h0⟩
theorem cellsB_set {n : Int} {l : List Int} (h : cellsB n l = true) (j : Nat) {v : Int} (h0 : 0 ≤ v) (h1 : v ≤ 999) : cellsB n (l.set j v) = true := by
  have := cellsB_at h
  refine cellsB_mk (by rw [List.length_set]; exact this.1) fun z hz => ?_
  rcases List.mem_or_eq_of_mem_set hz with hz | rfl
  · exact this.2 z hz
  · exact ⟨h0, h1⟩

def stateB (S : TState) : Bool := inR 0 19 S.f0 && (cellsB 4 S.f1 && (cellsB 3 S.f2 && cellsB 4 S.f3))
/-- The step that comes next. -/
def opAt (l : List TOp) (S : TState) : TOp := l.getD S.f0.toNat nOp
def canB (l : List TOp) (S : TState) : Bool := scriptB l && (stateB S && decide (S.f0 < (l.length : Int)))
def noWant : TWant := ⟨0, ⟨0, 0, 0⟩⟩
def wantOf (l : List TOp) (S : TState) : TWant :=
  if canB l S = true ∧ asksB (opAt l S).f0 = true then
    (if (opAt l S).f0 = 1 then ⟨(opAt l S).f0, ⟨(opAt l S).f2, (opAt l S).f3, S.f1.getD (opAt l S).f1.toNat 0 % 100⟩⟩ else ⟨(opAt l S).f0, ⟨0, 0, 0⟩⟩)
  else noWant
/-- A value from outside, as it is taken. -/
def taken (v : Int) : Int := if v < 0 then 0 else if 999 < v then 999 else v
theorem taken_in (v : Int) : 0 ≤ taken v ∧ taken v ≤ 999 := by unfold taken; split <;> (try split) <;> omega
def stepped (o : TOp) (S : TState) (v : Int) : TState :=
  if o.f0 = 5 then ⟨S.f0 + 1, S.f1.set o.f1.toNat ((S.f1.getD o.f2.toNat 0 + S.f1.getD o.f3.toNat 0) % 1000), S.f2, S.f3⟩
  else if o.f0 = 6 then ⟨S.f0 + 1, S.f1, S.f2, S.f3.set o.f2.toNat (S.f1.getD o.f1.toNat 0)⟩
  else if o.f0 = 7 then ⟨if S.f1.getD o.f1.toNat 0 % 2 = 0 then S.f0 + 1 + o.f2 else S.f0 + 1, S.f1, S.f2, S.f3⟩
  else if o.f0 = 8 then ⟨S.f0 + 1, S.f1.set o.f1.toNat (S.f2.getD o.f2.toNat 0), S.f2, S.f3⟩
  else if o.f0 = 9 then ⟨S.f0 + 1, S.f1, S.f2.set o.f2.toNat (S.f1.getD o.f1.toNat 0), S.f3⟩
  else ⟨S.f0 + 1, S.f1.set o.f1.toNat (taken v), S.f2, S.f3⟩
def step (l : List TOp) (S : TState) (v : Int) : TState := if canB l S = true then stepped (opAt l S) S v else S
def doneB (l : List TOp) (S : TState) : Bool := decide ((l.length : Int) ≤ S.f0)
def sameB (a b : TState) : Bool := (a.f0 == b.f0) && (decide (a.f1 = b.f1) && (decide (a.f2 = b.f2) && decide (a.f3 = b.f3)))
def startS : TState := ⟨0, [0, 0, 0, 0], [0, 0, 0], [0, 0, 0, 0]⟩

/-- The rows of a state, to be read. -/
structure St (w : World) (P : TState) (a1 : Option Addr) (c1 : Nat) (a2 : Option Addr) (c2 : Nat) (a3 : Option Addr) (c3 : Nat) : Prop where
  r1 : Lies 0 w.heap.size w (ints P.f1) (.slice a1 P.f1.length c1)
  r2 : Lies 0 w.heap.size w (ints P.f2) (.slice a2 P.f2.length c2)
  r3 : Lies 0 w.heap.size w (ints P.f3) (.slice a3 P.f3.length c3)
section
variable {w w' : World} {P : TState} {a1 a2 a3 : Option Addr} {c1 c2 c3 : Nat}
theorem St.below (h : St w P a1 c1 a2 c2 a3 c3) (hb : Below w.heap.size w w') : St w' P a1 c1 a2 c2 a3 c3 :=
  ⟨(h.r1.below hb).more (Nat.le_refl _) hb.size, (h.r2.below hb).more (Nat.le_refl _) hb.size, (h.r3.below hb).more (Nat.le_refl _) hb.size⟩
theorem St.of {l1 h1 l2 h2 l3 h3 : Nat} (k1 : Lies l1 h1 w (ints P.f1) (.slice a1 P.f1.length c1)) (k2 : Lies l2 h2 w (ints P.f2) (.slice a2 P.f2.length c2)) (k3 : Lies l3 h3 w (ints P.f3) (.slice a3 P.f3.length c3)) (e1 : h1 ≤ w.heap.size) (e2 : h2 ≤ w.heap.size) (e3 : h3 ≤ w.heap.size) : St w P a1 c1 a2 c2 a3 c3 :=
  ⟨k1.more (Nat.zero_le _) e1, k2.more (Nat.zero_le _) e2, k3.more (Nat.zero_le _) e3⟩
end
/-- A state of a call's own. -/
def GivenS (w : World) (R : TState) (e : Ending) (w' : World) : Prop :=
  ∃ (x1 : Option Addr) (y1 : Nat) (S1 : Nat → Prop) (x2 : Option Addr) (y2 : Nat) (S2 : Nat → Prop) (x3 : Option Addr) (y3 : Nat) (S3 : Nat → Prop), e = .returned (.agg #[.int .i64 R.f0, .slice x1 R.f1.length y1, .slice x2 R.f2.length y2, .slice x3 R.f3.length y3]) ∧
    Owns w' (ints R.f1) (.slice x1 R.f1.length y1) S1 ∧ Owns w' (ints R.f2) (.slice x2 R.f2.length y2) S2 ∧ Owns w' (ints R.f3) (.slice x3 R.f3.length y3) S3 ∧
    (∀ t, S1 t → w.heap.size ≤ t ∧ t < w'.heap.size) ∧ (∀ t, S2 t → w.heap.size ≤ t ∧ t < w'.heap.size) ∧ (∀ t, S3 t → w.heap.size ≤ t ∧ t < w'.heap.size) ∧
    Far x1 R.f1.length x2 R.f2.length ∧ Far x1 R.f1.length x3 R.f3.length ∧ Far x2 R.f2.length x3 R.f3.length ∧ Below w.heap.size w w'
/-- The same, its rows in blocks apart. -/
def GivenB (w : World) (R : TState) (e : Ending) (w' : World) : Prop :=
  ∃ (x1 : Option Addr) (y1 : Nat) (S1 : Nat → Prop) (x2 : Option Addr) (y2 : Nat) (S2 : Nat → Prop) (x3 : Option Addr) (y3 : Nat) (S3 : Nat → Prop), e = .returned (.agg #[.int .i64 R.f0, .slice x1 R.f1.length y1, .slice x2 R.f2.length y2, .slice x3 R.f3.length y3]) ∧
    Owns w' (ints R.f1) (.slice x1 R.f1.length y1) S1 ∧ Owns w' (ints R.f2) (.slice x2 R.f2.length y2) S2 ∧ Owns w' (ints R.f3) (.slice x3 R.f3.length y3) S3 ∧
    (∀ t, S1 t → w.heap.size ≤ t ∧ t < w'.heap.size) ∧ (∀ t, S2 t → w.heap.size ≤ t ∧ t < w'.heap.size) ∧ (∀ t, S3 t → w.heap.size ≤ t ∧ t < w'.heap.size) ∧
    (∀ t, S1 t → ¬ S2 t) ∧ (∀ t, S1 t → ¬ S3 t) ∧ (∀ t, S2 t → ¬ S3 t) ∧ Below w.heap.size w w'
/-- The rows of a state of a call's own, one behind the other. -/
structure OwnS (lo m1 m2 hi : Nat) (w : World) (f1 f2 f3 : List Int) (a1 : Option Addr) (c1 : Nat) (a2 : Option Addr) (c2 : Nat) (a3 : Option Addr) (c3 : Nat) : Prop where
  o1 : Own .i64 lo m1 w a1 f1.length f1
  o2 : Own .i64 m1 m2 w a2 f2.length f2
  o3 : Own .i64 m2 hi w a3 f3.length f3
  l1 : f1.length ≤ c1 ∧ c1 ≤ maxLen
  l2 : f2.length ≤ c2 ∧ c2 ≤ maxLen
  l3 : f3.length ≤ c3 ∧ c3 ≤ maxLen
  e0 : lo ≤ m1
  e1 : m1 ≤ m2
  e2 : m2 ≤ hi
theorem OwnS.given {lo m1 m2 hi : Nat} {w w' : World} {R : TState} {a1 a2 a3 : Option Addr} {c1 c2 c3 : Nat} (h : OwnS lo m1 m2 hi w' R.f1 R.f2 R.f3 a1 c1 a2 c2 a3 c3) (hlo : w.heap.size ≤ lo) (hhi : hi ≤ w'.heap.size) (hb : Below w.heap.size w w') :
    GivenS w R (.returned (.agg #[.int .i64 R.f0, .slice a1 R.f1.length c1, .slice a2 R.f2.length c2, .slice a3 R.f3.length c3])) w' := by
  have := h.e0
  have := h.e1
  have := h.e2
  have q1 := Owns.of_row h.o1 h.l1.1 h.l1.2 (S := Span lo m1) (fun t a b => ⟨a, b⟩)
  have q2 := Owns.of_row h.o2 h.l2.1 h.l2.2 (S := Span m1 m2) (fun t a b => ⟨a, b⟩)
  have q3 := Owns.of_row h.o3 h.l3.1 h.l3.2 (S := Span m2 hi) (fun t a b => ⟨a, b⟩)
  exact ⟨a1, c1, Span lo m1, a2, c2, Span m1 m2, a3, c3, Span m2 hi, rfl, q1, q2, q3,
    fun t h => ⟨by have := h.1; omega, by have := h.2; omega⟩, fun t h => ⟨by have := h.1; omega, by have := h.2; omega⟩, fun t h => ⟨by have := h.1; omega, by have := h.2; omega⟩,
    Far.of_owns q1 q2 (fun t h h' => by have := h.2; have := h'.1; omega), Far.of_owns q1 q3 (fun t h h' => by have := h.2; have := h'.1; omega), Far.of_owns q2 q3 (fun t h h' => by have := h.2; have := h'.1; omega), hb⟩
end Go.Proofs.Ytbohkohccnieiaa.Mach
