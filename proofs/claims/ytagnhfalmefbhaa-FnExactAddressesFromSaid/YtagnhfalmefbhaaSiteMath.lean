/-
  Sites that change: the mathematics of what a site answers.
  Conditions: none; nothing of the program stands here.
-/
import Derived.Test.YtagnhfalmefbhaaGVersion
import Derived.Test.YtagnhfalmefbhaaSound
namespace Go.Proofs.Ytagnhfalmefbhaa.Sites
open Go Go.RowKit Go.Proofs.Ytagnhfalmefbhaa.Gen Go.Proofs.Ytagnhfalmefbhaa.Adr Go.Proofs.Ytagnhfalmefbhaa.Res

/-- The cells of a resource. -/
def resCells (R : TResource) (a : Option Addr) (c : Nat) : List Value := [.int .i64 R.f0, .slice a R.f1.length c, .int .i64 R.f2.f0, .int .i64 R.f2.f1, .int .i64 R.f2.f2]
def adrCells (A : TAddress) : List Value := [.int .i64 A.f0, .int .i64 A.f1, .int .i64 A.f2]
def okRes (R : TResource) : Bool := okR R.f0 R.f2.f0 R.f2.f1 R.f2.f2 R.f1.length R.f1
def okV (V : TVersion) : Bool := okA V.f0.f0 V.f0.f1 V.f0.f2 && (decide (0 ≤ V.f1 ∧ V.f1 ≤ 1000) && okRes V.f2)
def siteB (l : List TVersion) : Bool := (List.range l.length).all (fun i => okV (l.getD i nVersion)) && decide (l.length ≤ 12)
@[irreducible] def AllOk (l : List TVersion) (j : Nat) : Prop := ∀ i, i < j → okV (l.getD i nVersion) = true
theorem AllOk.zero (l : List TVersion) : AllOk l 0 := by unfold AllOk; exact fun i h => absurd h (by omega)
theorem AllOk.next {l : List TVersion} {j : Nat} (h : AllOk l j) (hj : okV (l.getD j nVersion) = true) : AllOk l (j + 1) := by
  unfold AllOk at *
  intro i hi
  by_cases he : i = j
  · subst he; exact hj
  · exact h i (by omega)
theorem AllOk.end {l : List TVersion} {j : Nat} (h : AllOk l j) (hj : j = l.length) : siteB l = decide (l.length ≤ 12) := by
  unfold AllOk at h
  unfold siteB
  rw [show (List.range l.length).all (fun i => okV (l.getD i nVersion)) = true by rw [List.all_eq_true]; intro i hi; exact h i (by rw [hj]; exact List.mem_range.1 hi), Bool.true_and]
theorem siteB_no {l : List TVersion} {j : Nat} (hj : j < l.length) (h : okV (l.getD j nVersion) = false) : siteB l = false := by
  unfold siteB
  rw [show (List.range l.length).all (fun i => okV (l.getD i nVersion)) = false by rw [List.all_eq_false]; exact ⟨j, List.mem_range.2 hj, by rw [h]; simp⟩, Bool.false_and]

def sameA (a b : TAddress) : Bool := decide (a.f0 = b.f0 ∧ a.f1 = b.f1 ∧ a.f2 = b.f2)
theorem sameA_iff {a b : TAddress} : sameA a b = true ↔ a = b := by
  obtain ⟨a0, a1, a2⟩ := a
  obtain ⟨b0, b1, b2⟩ := b
  simp [sameA]
def noneR : TResource := ⟨4, [], ⟨0, 0, 0⟩⟩
def hit (A : TAddress) (t : Int) (V : TVersion) : Bool := sameA V.f0 A && decide (V.f1 ≤ t)
/-- What the first j versions answer. -/
def answerTo (l : List TVersion) (A : TAddress) (t : Int) : Nat → TResource
  | 0 => noneR
  | j + 1 => if hit A t (l.getD j nVersion) = true then (l.getD j nVersion).f2 else answerTo l A t j
def answer (l : List TVersion) (A : TAddress) (t : Int) : TResource := answerTo l A t l.length
theorem answerTo_from (l : List TVersion) (A : TAddress) (t : Int) : ∀ j, answerTo l A t j = noneR ∨ ∃ i, i < j ∧ hit A t (l.getD i nVersion) = true ∧ answerTo l A t j = (l.getD i nVersion).f2 ∧ ∀ k, i < k → k < j → hit A t (l.getD k nVersion) = false
  | 0 => .inl rfl
  | j + 1 => by
    simp only [answerTo]
    split
    · rename_i h
      exact .inr ⟨j, by omega, h, rfl, fun k h1 h2 => absurd h2 (by omega)⟩
    · rename_i h
      rcases answerTo_from l A t j with h1 | ⟨i, hi, h2, h3, h4⟩
      · exact .inl h1
      · refine .inr ⟨i, by omega, h2, h3, fun k hk1 hk2 => ?_⟩
        by_cases he : k = j
        · subst he; simpa using h
        · exact h4 k hk1 (by omega)
theorem room_body {l : List TVersion} {i : Nat} (hi : i < l.length) : room (ints (l.getD i nVersion).f2.f1) ≤ room (dVersion l) := by
  have h := room_at (k := 9) (n := l.length) (f := fun i => (l.getD i nVersion).c) hi
  rw [room_Version] at h
  exact h
theorem room_answer (l : List TVersion) (A : TAddress) (t : Int) : ∀ j, j ≤ l.length → (answerTo l A t j).f1.length ≤ room (dVersion l) := fun j hj => by
  rcases answerTo_from l A t j with h | ⟨i, hi, _, h, _⟩
  · rw [h]; exact Nat.zero_le _
  · rw [h]
    have := room_body (l := l) (i := i) (by omega)
    rwa [room_ints] at this
def sameRes (a b : TResource) : Bool := decide (a.f0 = b.f0 ∧ (a.f2.f0 = b.f2.f0 ∧ a.f2.f1 = b.f2.f1 ∧ a.f2.f2 = b.f2.f2) ∧ a.f1 = b.f1)
def steadyTo (l : List TVersion) (A : TAddress) (u : Int) (n : Nat) : Bool := (List.range n).all fun i => sameRes (answer l A u) (answer l A (u + i))
def steadyB (l : List TVersion) (A : TAddress) (u v : Int) : Bool := decide (0 ≤ u ∧ u ≤ 1000) && (decide (u ≤ v ∧ v ≤ 1000) && steadyTo l A u (v - u + 1).toNat)
theorem steadyTo_next {l : List TVersion} {A : TAddress} {u : Int} {j : Nat} (h : steadyTo l A u j = true) (hj : sameRes (answer l A u) (answer l A (u + j)) = true) : steadyTo l A u (j + 1) = true := by
  unfold steadyTo at *
  rw [List.all_eq_true] at *
  intro i hi
  by_cases he : i = j
  · subst he; exact hj
  · exact h i (List.mem_range.2 (by have := List.mem_range.1 hi; omega))
theorem steadyTo_no {l : List TVersion} {A : TAddress} {u : Int} {j n : Nat} (hn : j < n) (hj : sameRes (answer l A u) (answer l A (u + j)) = false) : steadyTo l A u n = false := by
  unfold steadyTo
  rw [List.all_eq_false]
  exact ⟨j, List.mem_range.2 hn, by rw [hj]; simp⟩
def hasA (l : List TAddress) (A : TAddress) : Bool := (List.range l.length).any fun i => sameA (l.getD i nAddress) A
@[irreducible] def NotYet (l : List TAddress) (A : TAddress) (j : Nat) : Prop := ∀ i, i < j → sameA (l.getD i nAddress) A = false
theorem NotYet.zero (l : List TAddress) (A : TAddress) : NotYet l A 0 := by unfold NotYet; exact fun i h => absurd h (by omega)
theorem NotYet.next {l : List TAddress} {A : TAddress} {j : Nat} (h : NotYet l A j) (hj : sameA (l.getD j nAddress) A = false) : NotYet l A (j + 1) := by
  unfold NotYet at *
  intro i hi
  by_cases he : i = j
  · subst he; exact hj
  · exact h i (by omega)
theorem NotYet.end {l : List TAddress} {A : TAddress} {j : Nat} (h : NotYet l A j) (hj : j = l.length) : hasA l A = false := by
  unfold NotYet at h
  unfold hasA
  rw [List.any_eq_false]
  intro i hi
  rw [h i (by rw [hj]; exact List.mem_range.1 hi)]
  simp
theorem hasA_yes {l : List TAddress} {A : TAddress} {j : Nat} (hj : j < l.length) (h : sameA (l.getD j nAddress) A = true) : hasA l A = true := by
  unfold hasA
  rw [List.any_eq_true]
  exact ⟨j, List.mem_range.2 hj, h⟩
theorem sameA_all {a b : TAddress} (h : sameA a b = true) : (a.f0 == b.f0) = true ∧ (a.f1 == b.f1) = true ∧ (a.f2 == b.f2) = true := by
  unfold sameA at h
  simp only [decide_eq_true_eq] at h
  simp [h]
theorem sameA_cases {a b : TAddress} (h : sameA a b = false) : (a.f0 == b.f0) = false ∨ ((a.f0 == b.f0) = true ∧ (a.f1 == b.f1) = false) ∨ ((a.f0 == b.f0) = true ∧ (a.f1 == b.f1) = true ∧ (a.f2 == b.f2) = false) := by
  unfold sameA at h
  by_cases h0 : a.f0 = b.f0 <;> by_cases h1 : a.f1 = b.f1 <;> by_cases h2 : a.f2 = b.f2 <;> simp_all
end Go.Proofs.Ytagnhfalmefbhaa.Sites
