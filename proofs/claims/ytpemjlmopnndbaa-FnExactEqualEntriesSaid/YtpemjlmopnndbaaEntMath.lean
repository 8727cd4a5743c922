/-
  Entries of a recording: which are valid, when two lists have the same ones. Plain mathematics.
  Conditions: none; nothing of the program stands here.
-/
import Derived.Test.YtpemjlmopnndbaaGEntry
import Derived.Test.YtpemjlmopnndbaaScriptMath
import Derived.Test.YtpemjlmopnndbaaAddrMath
import Derived.Test.YtpemjlmopnndbaaAdr
namespace Go.Proofs.Ytpemjlmopnndbaa.Rec
open Go Go.RowKit Go.Proofs.Ytpemjlmopnndbaa.Mem Go.Proofs.Ytpemjlmopnndbaa.Gen Go.Proofs.Ytpemjlmopnndbaa.Scripts

/-- The zero address. -/
def zeroA (h p q : Int) : Bool := decide (h = 0 ∧ p = 0 ∧ q = 0)
def placeB (k h p q : Int) : Bool := if k = 1 then Adr.okA h p q else zeroA h p q
def entryB (e : TEntry) : Bool := asksB e.f0 && (inR 0 999 e.f2 && placeB e.f0 e.f1.f0 e.f1.f1 e.f1.f2)
def entriesB (l : List TEntry) : Bool := l.all entryB && decide ((l.length : Int) ≤ 16)
def AllE (l : List TEntry) (j : Nat) : Prop := ∀ i, i < j → entryB (l.getD i nEntry) = true
theorem AllE.zero (l : List TEntry) : AllE l 0 := fun i h => absurd h (by omega)
theorem AllE.next {l : List TEntry} {j : Nat} (h : AllE l j) (hj : entryB (l.getD j nEntry) = true) : AllE l (j + 1) := fun i hi => by
  by_cases he : i = j
  · subst he; exact hj
  · exact h i (by omega)
theorem getE {l : List TEntry} {j : Nat} (hj : j < l.length) : l.getD j nEntry ∈ l := by
  rw [List.getD_eq_getElem?_getD, List.getElem?_eq_getElem hj]; exact List.getElem_mem _
theorem entries_no {l : List TEntry} {j : Nat} (hj : j < l.length) (h : entryB (l.getD j nEntry) = false) : entriesB l = false := by
  unfold entriesB
  cases hs : l.all entryB with
  | false => rfl
  | true =>
    rw [List.all_eq_true] at hs
    rw [hs _ (getE hj)] at h
    exact absurd h (by simp)
theorem entries_end {l : List TEntry} {j : Nat} (h : AllE l j) (hj : l.length ≤ j) : entriesB l = decide ((l.length : Int) ≤ 16) := by
  unfold entriesB
  have : l.all entryB = true := by
    rw [List.all_eq_true]
    intro x hx
    obtain ⟨i, hi, rfl⟩ := List.getElem_of_mem hx
    have := h i (by omega)
    rwa [List.getD_eq_getElem?_getD, List.getElem?_eq_getElem hi] at this
  rw [this, Bool.true_and]
theorem entries_yes {l : List TEntry} (h : ∀ e ∈ l, entryB e = true) (hl : l.length ≤ 16) : entriesB l = true := by
  unfold entriesB
  rw [List.all_eq_true.2 h, Bool.true_and]
  exact decide_eq_true (by omega)
/-- Whether two entries are the same. -/
def entQ (a b : TEntry) : Bool := (a.f0 == b.f0) && ((a.f1.f0 == b.f1.f0) && ((a.f1.f1 == b.f1.f1) && ((a.f1.f2 == b.f1.f2) && (a.f2 == b.f2))))
theorem entQ_refl (a : TEntry) : entQ a a = true := by unfold entQ; simp
/-- Whether two lists have the same entries. -/
def sameE (a b : List TEntry) : Bool := decide (a.length = b.length) && (List.range a.length).all fun j => entQ (a.getD j nEntry) (b.getD j nEntry)
def SameUp (a b : List TEntry) (j : Nat) : Prop := ∀ i, i < j → entQ (a.getD i nEntry) (b.getD i nEntry) = true
theorem SameUp.zero (a b : List TEntry) : SameUp a b 0 := fun i h => absurd h (by omega)
theorem SameUp.next {a b : List TEntry} {j : Nat} (h : SameUp a b j) (hj : entQ (a.getD j nEntry) (b.getD j nEntry) = true) : SameUp a b (j + 1) := fun i hi => by
  by_cases he : i = j
  · subst he; exact hj
  · exact h i (by omega)
theorem sameE_len {a b : List TEntry} (h : a.length ≠ b.length) : sameE a b = false := by
  unfold sameE
  rw [decide_eq_false h, Bool.false_and]
theorem sameE_no {a b : List TEntry} {j : Nat} (hj : j < a.length) (h : entQ (a.getD j nEntry) (b.getD j nEntry) = false) : sameE a b = false := by
  cases hs : sameE a b with
  | false => rfl
  | true =>
    unfold sameE at hs
    rw [Bool.and_eq_true, List.all_eq_true] at hs
    rw [hs.2 j (List.mem_range.2 hj)] at h
    exact absurd h (by simp)
theorem sameE_end {a b : List TEntry} {j : Nat} (hl : a.length = b.length) (h : SameUp a b j) (hj : a.length ≤ j) : sameE a b = true := by
  unfold sameE
  rw [decide_eq_true hl, Bool.true_and, List.all_eq_true]
  intro i hi
  exact h i (by have := List.mem_range.1 hi; omega)
theorem sameE_refl (a : List TEntry) : sameE a a = true := sameE_end rfl (fun _ _ => entQ_refl _) (Nat.le_refl _)
end Go.Proofs.Ytpemjlmopnndbaa.Rec
