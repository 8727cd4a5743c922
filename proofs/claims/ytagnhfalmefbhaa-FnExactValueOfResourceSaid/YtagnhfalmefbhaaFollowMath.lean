/-
  Sites that change: the mathematics of moves that are followed, and of ticks between changes.
  Conditions: none; nothing of the program stands here.
-/
import Derived.Test.YtagnhfalmefbhaaPastMath
namespace Go.Proofs.Ytagnhfalmefbhaa.Sites
open Go Go.RowKit Go.Proofs.Ytagnhfalmefbhaa.Gen Go.Proofs.Ytagnhfalmefbhaa.Adr Go.Proofs.Ytagnhfalmefbhaa.Res

def moves (Q : List TAddress) (r : TResource) : Bool := decide (r.f0 = 3) && (decide (Q.length ≤ 4) && !hasA Q r.f2)
/-- The addresses that were asked and the last answer, when moves are followed k times at most. -/
def fol (l : List TVersion) (t : Int) : Nat → List TAddress → TResource → List TAddress × TResource
  | 0, Q, r => (Q, r)
  | k + 1, Q, r => if moves Q r = true then fol l t k (Q ++ [r.f2]) (answer l r.f2 t) else (Q, r)
def followed (l : List TVersion) (A : TAddress) (t : Int) : List TAddress × TResource := fol l t 4 [A] (answer l A t)
theorem fol_stop {l : List TVersion} {t : Int} {Q : List TAddress} {r : TResource} (h : moves Q r = false) : ∀ k, fol l t k Q r = (Q, r)
  | 0 => rfl
  | k + 1 => by simp only [fol, h, Bool.false_eq_true, if_false]
theorem fol_step {l : List TVersion} {t : Int} {Q : List TAddress} {r : TResource} {k : Nat} {R : List TAddress × TResource} (hm : moves Q r = true) (hk : Q.length + k = 5) (h : fol l t k Q r = R) : ∃ k', Q.length + 1 + k' = 5 ∧ fol l t k' (Q ++ [r.f2]) (answer l r.f2 t) = R := by
  have h4 : Q.length ≤ 4 := by
    unfold moves at hm
    simp only [Bool.and_eq_true, decide_eq_true_eq] at hm
    exact hm.2.1
  obtain ⟨k', rfl⟩ : ∃ k', k = k' + 1 := ⟨k - 1, by omega⟩
  refine ⟨k', by omega, ?_⟩
  rw [← h]
  simp only [fol, hm, if_true]
theorem moves_kind {Q : List TAddress} {r : TResource} (h : r.f0 ≠ 3) : moves Q r = false := by unfold moves; rw [decide_eq_false h]; rfl
theorem moves_len {Q : List TAddress} {r : TResource} (h : ¬ Q.length ≤ 4) : moves Q r = false := by unfold moves; rw [decide_eq_false h]; simp
theorem moves_has {Q : List TAddress} {r : TResource} (h0 : r.f0 = 3) (h : Q.length ≤ 4) : moves Q r = !hasA Q r.f2 := by unfold moves; rw [decide_eq_true h0, decide_eq_true h]; rfl
theorem hasA_mem {Q : List TAddress} {A : TAddress} : hasA Q A = true ↔ A ∈ Q := by
  unfold hasA
  rw [List.any_eq_true]
  constructor
  · rintro ⟨i, hi, h⟩
    have hi' := List.mem_range.1 hi
    have := sameA_iff.1 h
    rw [List.getD_eq_getElem?_getD, List.getElem?_eq_getElem hi', Option.getD_some] at this
    rw [← this]
    exact List.getElem_mem _
  · intro h
    obtain ⟨i, hi, rfl⟩ := List.getElem_of_mem h
    exact ⟨i, List.mem_range.2 hi, sameA_iff.2 (by rw [List.getD_eq_getElem?_getD, List.getElem?_eq_getElem hi, Option.getD_some])⟩
theorem fol_len {l : List TVersion} {t : Int} : ∀ {k : Nat} {Q : List TAddress} {r : TResource}, Q.length + k = 5 → (fol l t k Q r).1.length ≤ 5
  | 0, Q, r, h => by simp only [fol]; omega
  | k + 1, Q, r, h => by
    simp only [fol]
    split
    · exact fol_len (by simp; omega)
    · show Q.length ≤ 5; omega
theorem fol_ans {l : List TVersion} {t : Int} : ∀ {k : Nat} {Q : List TAddress} {r : TResource}, (∃ A, r = answer l A t) → ∃ A, (fol l t k Q r).2 = answer l A t
  | 0, _, _, h => h
  | k + 1, Q, r, h => by
    simp only [fol]
    split
    · exact fol_ans ⟨_, rfl⟩
    · exact h

/-- Answers do not change between ticks. -/
theorem answerIn_congr {p : List TVersion} {t s : Int} (h : ∀ V ∈ p, V.f1 ≤ t ↔ V.f1 ≤ s) : answerIn p t = answerIn p s := by
  unfold answerIn
  have : ∀ (q : List TVersion) (r : TResource), (∀ V ∈ q, V.f1 ≤ t ↔ V.f1 ≤ s) → q.foldl (late t) r = q.foldl (late s) r := by
    intro q
    induction q with
    | nil => intro r _; rfl
    | cons V q ih =>
      intro r hq
      rw [List.foldl_cons, List.foldl_cons]
      have e : late t r V = late s r V := by
        unfold late
        rw [decide_eq_decide.2 (hq V (by simp))]
      rw [e]
      exact ih _ fun U hU => hq U (by simp [hU])
  exact this p noneR h
theorem max_of : ∀ {L : List Int}, L ≠ [] → ∃ m, m ∈ L ∧ ∀ x ∈ L, x ≤ m
  | [], h => absurd rfl h
  | [a], _ => ⟨a, by simp, by simp⟩
  | a :: b :: L, _ => by
    obtain ⟨m, h1, h2⟩ := max_of (L := b :: L) (by simp)
    by_cases e : a ≤ m
    · refine ⟨m, List.mem_cons_of_mem _ h1, fun x hx => ?_⟩
      rcases List.mem_cons.1 hx with rfl | hx
      · exact e
      · exact h2 x hx
    · refine ⟨a, by simp, fun x hx => ?_⟩
      rcases List.mem_cons.1 hx with rfl | hx
      · exact Int.le_refl _
      · have := h2 x hx; omega
/-- The last change at or ahead of a tick, if there is one. -/
theorem last_change (p : List TVersion) (t : Int) : (∀ x ∈ ticks p, t < x) ∨ ∃ m, m ∈ ticks p ∧ m ≤ t ∧ ∀ x ∈ ticks p, x ≤ t → x ≤ m := by
  by_cases h : (ticks p).filter (fun x => decide (x ≤ t)) = []
  · left
    intro x hx
    have : ¬ x ≤ t := fun e => by
      have hm : x ∈ (ticks p).filter (fun x => decide (x ≤ t)) := List.mem_filter.2 ⟨hx, by simpa using e⟩
      rw [h] at hm
      simp at hm
    omega
  · right
    obtain ⟨m, h1, h2⟩ := max_of h
    rw [List.mem_filter] at h1
    exact ⟨m, h1.1, by simpa using h1.2, fun x hx e => h2 x (List.mem_filter.2 ⟨hx, by simpa using e⟩)⟩
theorem tick_of {p : List TVersion} {V : TVersion} (h : V ∈ p) : V.f1 ∈ ticks p := ((ticks_all p).2 _).2 (List.mem_map.2 ⟨V, h, rfl⟩)
theorem answer_none {p : List TVersion} {t : Int} (h : ∀ x ∈ ticks p, t < x) : answerIn p t = noneR := by
  have g : ∀ (q : List TVersion) (r : TResource), (∀ V ∈ q, ¬ V.f1 ≤ t) → q.foldl (late t) r = r := by
    intro q
    induction q with
    | nil => intro r _; rfl
    | cons V q ih =>
      intro r hq
      rw [List.foldl_cons]
      have e : late t r V = r := by unfold late; rw [if_neg (by simpa using hq V (by simp))]
      rw [e]
      exact ih _ fun U hU => hq U (by simp [hU])
  exact g p noneR fun V hV e => by have := h _ (tick_of hV); omega
theorem answer_last {p : List TVersion} {t m : Int} (h1 : m ≤ t) (h2 : ∀ x ∈ ticks p, x ≤ t → x ≤ m) : answerIn p t = answerIn p m := answerIn_congr fun V hV => ⟨fun h => h2 _ (tick_of hV) h, fun h => by omega⟩
theorem sameRes_iff {a b : TResource} : sameRes a b = true ↔ a = b := by
  obtain ⟨a0, a1, a2, a3, a4⟩ := a
  obtain ⟨b0, b1, b2, b3, b4⟩ := b
  simp only [sameRes, decide_eq_true_eq, TResource.mk.injEq, TAddress.mk.injEq]
  constructor
  · rintro ⟨h1, h2, h3⟩; exact ⟨h1, h3, h2⟩
  · rintro ⟨h1, h2, h3⟩; exact ⟨h1, h3, h2⟩
/-- Steady: the same at each change between the two ticks. -/
theorem steady_iff {l : List TVersion} {A : TAddress} {u v : Int} (huv : u ≤ v) : steadyTo l A u (v - u + 1).toNat = true ↔ ∀ x ∈ ticks (past l A), u ≤ x → x ≤ v → answerIn (past l A) x = answerIn (past l A) u := by
  unfold steadyTo
  rw [List.all_eq_true]
  simp only [← answer_past, sameRes_iff]
  constructor
  · intro h x _ h1 h2
    have := h (x - u).toNat (List.mem_range.2 (by omega))
    rw [show u + ((x - u).toNat : Int) = x by omega] at this
    exact this.symm
  · intro h i hi
    have hi' := List.mem_range.1 hi
    rcases last_change (past l A) (u + i) with h0 | ⟨m, hm, h1, h2⟩
    · exact answerIn_congr fun V hV => by have := h0 _ (tick_of hV); omega
    · by_cases hum : u ≤ m
      · rw [answer_last h1 h2]
        exact (h m hm hum (by omega)).symm
      · exact answerIn_congr fun V hV => ⟨fun e => by omega, fun e => by have := h2 _ (tick_of hV) e; omega⟩
end Go.Proofs.Ytagnhfalmefbhaa.Sites
