/-
  Visits: which are valid, the value of a resource, what comes from outside. Plain mathematics.
  Conditions: none; nothing of the program stands here.
-/
import Derived.Test.YtagnhfalmefbhaaGVisit
import Derived.Test.YtagnhfalmefbhaaGWant
import Derived.Test.YtagnhfalmefbhaaFollowMath
import Derived.Test.YtagnhfalmefbhaaMaths
namespace Go.Proofs.Ytagnhfalmefbhaa.Visits
open Go Go.RowKit Go.Proofs.Ytagnhfalmefbhaa.Mem Go.Proofs.Ytagnhfalmefbhaa.Gen Go.Proofs.Ytagnhfalmefbhaa.Res Go.Proofs.Ytagnhfalmefbhaa.Sites

def inR (lo hi x : Int) : Bool := decide (lo ≤ x ∧ x ≤ hi)
theorem inR_yes {lo hi x : Int} (h1 : lo ≤ x) (h2 : x ≤ hi) : inR lo hi x = true := by unfold inR; exact decide_eq_true ⟨h1, h2⟩
theorem inR_no {lo hi x : Int} (h : x < lo ∨ hi < x) : inR lo hi x = false := by unfold inR; exact decide_eq_false (by omega)
theorem inR_at {lo hi x : Int} (h : inR lo hi x = true) : lo ≤ x ∧ x ≤ hi := by unfold inR at h; exact of_decide_eq_true h
/-- All numbers from 0 to 999. -/
def heldB (l : List Int) : Bool := l.all (inR 0 999)
def AllIn (l : List Int) (j : Nat) : Prop := ∀ i, i < j → inR 0 999 (l.getD i 0) = true
theorem AllIn.zero (l : List Int) : AllIn l 0 := fun i h => absurd h (by omega)
theorem AllIn.next {l : List Int} {j : Nat} (h : AllIn l j) (hj : inR 0 999 (l.getD j 0) = true) : AllIn l (j + 1) := fun i hi => by
  by_cases he : i = j
  · subst he; exact hj
  · exact h i (by omega)
theorem heldB_no {l : List Int} {j : Nat} (hj : j < l.length) (h : inR 0 999 (l.getD j 0) = false) : heldB l = false := by
  cases hs : heldB l with
  | false => rfl
  | true =>
    unfold heldB at hs
    rw [List.all_eq_true] at hs
    have := hs (l.getD j 0) (by rw [List.getD_eq_getElem?_getD, List.getElem?_eq_getElem hj]; exact List.getElem_mem _)
    rw [h] at this
    exact absurd this (by simp)
theorem heldB_end {l : List Int} {j : Nat} (h : AllIn l j) (hj : l.length ≤ j) : heldB l = true := by
  unfold heldB
  rw [List.all_eq_true]
  intro x hx
  obtain ⟨i, hi, rfl⟩ := List.getElem_of_mem hx
  have := h i (by omega)
  rwa [List.getD_eq_getElem?_getD, List.getElem?_eq_getElem hi] at this
theorem heldB_get {l : List Int} (h : heldB l = true) {j : Nat} (hj : j < l.length) : 0 ≤ l.getD j 0 ∧ l.getD j 0 ≤ 999 := by
  unfold heldB at h
  rw [List.all_eq_true] at h
  exact inR_at (h (l.getD j 0) (by rw [List.getD_eq_getElem?_getD, List.getElem?_eq_getElem hj]; exact List.getElem_mem _))
/-- Whether a visit is valid. -/
def visitB (P : TVisit) : Bool := siteB P.f0 && (inR 0 1000 P.f1 && (inR 0 9999 P.f2 && (decide ((P.f3.length : Int) ≤ 8) && heldB P.f3)))
theorem visit_at {P : TVisit} (h : visitB P = true) : siteB P.f0 = true ∧ (0 ≤ P.f1 ∧ P.f1 ≤ 1000) ∧ (0 ≤ P.f2 ∧ P.f2 ≤ 9999) ∧ P.f3.length ≤ 8 ∧ heldB P.f3 = true := by
  unfold visitB at h
  simp only [Bool.and_eq_true] at h
  exact ⟨h.1, inR_at h.2.1, inR_at h.2.2.1, by have := of_decide_eq_true h.2.2.2.1; omega, h.2.2.2.2⟩
/-- A resource that has a value. -/
def hasR (R : TResource) : Bool := okRes R && decide (R.f0 ≤ 2)
theorem okRes_kind {R : TResource} (h : okRes R = true) : 1 ≤ R.f0 ∧ R.f0 ≤ 4 := by
  unfold okRes okR at h
  split at h
  · omega
  · split at h
    · omega
    · split at h
      · omega
      · exact absurd h (by simp)
theorem hasR_body {R : TResource} (h : hasR R = true) : R.f1.length ≤ 6 ∧ ∀ j, j < R.f1.length → 0 ≤ R.f1.getD j 0 ∧ R.f1.getD j 0 ≤ 255 := by
  unfold hasR at h
  rw [Bool.and_eq_true, decide_eq_true_eq] at h
  have hk := okRes_kind h.1
  have h1 := h.1
  unfold okRes okR at h1
  rw [if_pos (by omega), Bool.and_eq_true, Bool.and_eq_true, decide_eq_true_eq] at h1
  refine ⟨h1.1, fun j hj => ?_⟩
  have := h1.2.1
  unfold allB at this
  rw [List.all_eq_true] at this
  have := this (R.f1.getD j 0) (by rw [List.getD_eq_getElem?_getD, List.getElem?_eq_getElem hj]; exact List.getElem_mem _)
  unfold inB at this
  exact of_decide_eq_true this
def least (a b : Int) : Int := if b < a then b else a
/-- The value of a resource. -/
def valueR (R : TResource) : Int := if hasR R = true then least 999 (R.f1.sum % 1000 + 1) else 0
theorem valueR_in (R : TResource) : 0 ≤ valueR R ∧ valueR R ≤ 999 ∧ (0 < valueR R ↔ hasR R = true) := by
  unfold valueR least
  have h1 := Int.emod_nonneg R.f1.sum (show (1000 : Int) ≠ 0 by omega)
  cases h : hasR R with
  | true => rw [if_pos rfl]; split <;> (refine ⟨by omega, by omega, ?_⟩; constructor <;> intro _ <;> first | rfl | omega)
  | false => rw [if_neg (by simp)]; simp
/-- The sum of the numbers ahead of j. -/
def sumUp (l : List Int) (j : Nat) : Int := (l.take j).sum
theorem sumUp_zero (l : List Int) : sumUp l 0 = 0 := rfl
theorem sumUp_next {l : List Int} {j : Nat} (hj : j < l.length) : sumUp l (j + 1) = sumUp l j + l.getD j 0 := by
  unfold sumUp
  rw [List.take_add_one, List.getElem?_eq_getElem hj, List.sum_append, List.getD_eq_getElem?_getD, List.getElem?_eq_getElem hj]
  simp only [Option.toList_some, List.sum_cons, List.sum_nil, Option.getD_some, Int.add_zero]
theorem sumUp_all {l : List Int} {j : Nat} (hj : l.length ≤ j) : sumUp l j = l.sum := by unfold sumUp; rw [List.take_of_length_le hj]
theorem sumUp_in {l : List Int} (h : ∀ j, j < l.length → 0 ≤ l.getD j 0 ∧ l.getD j 0 ≤ 255) : ∀ j, j ≤ l.length → 0 ≤ sumUp l j ∧ sumUp l j ≤ 255 * j
  | 0, _ => by rw [sumUp_zero]; omega
  | j + 1, hj => by
    have h1 := sumUp_in h j (by omega)
    have h2 := h j (by omega)
    rw [sumUp_next (by omega)]
    push_cast
    omega
/-- The n-th value from outside may be asked for. -/
def atB (P : TVisit) (n : Int) : Bool := visitB P && inR 0 100 n
def liveV (P : TVisit) (W : TWant) (n : Int) : Int :=
  if atB P n = true then
    (if W.f0 = 1 then valueR (followed P.f0 W.f1 (P.f1 + n)).2 else if W.f0 = 2 then least 999 (P.f1 + n) else if W.f0 = 3 then Hsh.hash [P.f2, n] % 1000 else if W.f0 = 4 ∧ 0 < P.f3.length then P.f3.getD (n.toNat % P.f3.length) 0 else 0)
  else 0
def askV (P : TVisit) (W : TWant) (n : Int) : List TAddress := if W.f0 = 1 ∧ atB P n = true then (followed P.f0 W.f1 (P.f1 + n)).1 else []
theorem live_in (P : TVisit) (W : TWant) (n : Int) : 0 ≤ liveV P W n ∧ liveV P W n ≤ 999 := by
  unfold liveV
  by_cases h : atB P n = true
  · rw [if_pos h]
    unfold atB at h
    rw [Bool.and_eq_true] at h
    obtain ⟨_, h1, _, _, h3⟩ := visit_at h.1
    have h2 := inR_at h.2
    split
    · have := valueR_in (followed P.f0 W.f1 (P.f1 + n)).2; omega
    · split
      · unfold least; split <;> omega
      · split
        · have := Int.emod_nonneg (Hsh.hash [P.f2, n]) (show (1000 : Int) ≠ 0 by omega)
          have := Int.emod_lt_of_pos (Hsh.hash [P.f2, n]) (show (0 : Int) < 1000 by omega)
          omega
        · split
          · rename_i hc
            exact heldB_get h3 (Nat.mod_lt _ hc.2)
          · omega
  · rw [if_neg h]; omega
end Go.Proofs.Ytagnhfalmefbhaa.Visits
