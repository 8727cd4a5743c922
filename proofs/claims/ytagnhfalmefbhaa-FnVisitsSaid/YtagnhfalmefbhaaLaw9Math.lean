/-
  What a site answers at its last change, and what a chain of moves has asked.
  Conditions: none; nothing of the program stands here.
-/
import Derived.Test.YtagnhfalmefbhaaGiven9
namespace Go.Proofs.Ytagnhfalmefbhaa.Sites
open Go Go.RowKit Go.Proofs.Ytagnhfalmefbhaa.Gen Go.Proofs.Ytagnhfalmefbhaa.Adr Go.Proofs.Ytagnhfalmefbhaa.Res

/-- z: the last of the first k changes at or ahead of t, or -1. -/
def LastOf (c : List Int) (t : Int) (k : Nat) (z : Int) : Prop := (z = -1 ∧ ∀ j, j < k → t < c.getD j 0) ∨ (z ∈ c ∧ z ≤ t ∧ ∀ j, j < k → c.getD j 0 ≤ t → c.getD j 0 ≤ z)
theorem getD_mem {α : Type} {l : List α} {i : Nat} {d : α} (h : i < l.length) : l.getD i d ∈ l := by rw [List.getD_eq_getElem?_getD, List.getElem?_eq_getElem h]; exact List.getElem_mem _
theorem LastOf.zero (c : List Int) (t : Int) : LastOf c t 0 (-1) := .inl ⟨rfl, fun _ h => absurd h (by omega)⟩
theorem asc_le {c : List Int} (h : Asc c) {j k : Nat} (hj : j < k) (hk : k < c.length) : c.getD j 0 ≤ c.getD k 0 := by
  unfold Asc at h
  rw [List.pairwise_iff_getElem] at h
  have := h j k (by omega) hk hj
  rw [List.getD_eq_getElem?_getD, List.getElem?_eq_getElem (by omega), List.getD_eq_getElem?_getD, List.getElem?_eq_getElem hk]
  simp only [Option.getD_some]
  omega
theorem LastOf.yes {c : List Int} {t : Int} {k : Nat} (ha : Asc c) (hk : k < c.length) (h : c.getD k 0 ≤ t) : LastOf c t (k + 1) (c.getD k 0) := by
  refine .inr ⟨getD_mem hk, h, fun j hj _ => ?_⟩
  by_cases he : j = k
  · subst he; exact Int.le_refl _
  · exact asc_le ha (by omega) hk
theorem LastOf.no {c : List Int} {t z : Int} {k : Nat} (hz : LastOf c t k z) (h : ¬ c.getD k 0 ≤ t) : LastOf c t (k + 1) z := by
  rcases hz with ⟨e, h1⟩ | ⟨e, h1, h2⟩
  · refine .inl ⟨e, fun j hj => ?_⟩
    by_cases he : j = k
    · subst he; omega
    · exact h1 j (by omega)
  · refine .inr ⟨e, h1, fun j hj hle => ?_⟩
    by_cases he : j = k
    · subst he; exact absurd hle h
    · exact h2 j (by omega) hle
/-- What the law asks of the last change. -/
theorem last_end {l : List TVersion} {A : TAddress} {t z : Int} {k : Nat} (hf : ∀ P ∈ l, 0 ≤ P.f1) (ht : t ≤ 1000) (hk : k = (ticks (past l A)).length) (h : LastOf (ticks (past l A)) t k z) :
    (z < 0 ∧ answer l A t = noneR) ∨ (0 ≤ z ∧ z ≤ t ∧ answer l A z = answer l A t ∧ steadyB l A z t = true) := by
  subst hk
  have at' : ∀ x, x ∈ ticks (past l A) → ∃ j, j < (ticks (past l A)).length ∧ (ticks (past l A)).getD j 0 = x := fun x hx => by
    obtain ⟨j, hj, e⟩ := List.mem_iff_getElem.1 hx
    exact ⟨j, hj, by rw [List.getD_eq_getElem?_getD, List.getElem?_eq_getElem hj]; exact e⟩
  rcases h with ⟨rfl, h1⟩ | ⟨hm, h1, h2⟩
  · refine .inl ⟨by omega, ?_⟩
    rw [← answer_past]
    refine answer_none fun x hx => ?_
    obtain ⟨j, hj, e⟩ := at' x hx
    rw [← e]
    exact h1 j hj
  · have h2' : ∀ x ∈ ticks (past l A), x ≤ t → x ≤ z := fun x hx hle => by
      obtain ⟨j, hj, e⟩ := at' x hx
      have := h2 j hj (by rw [e]; exact hle)
      rwa [e] at this
    have h0 : 0 ≤ z := by
      have hz := ((ticks_all (past l A)).2 z).1 hm
      obtain ⟨V, hV, e⟩ := List.mem_map.1 hz
      rw [← e]
      exact hf V (past_mem hV).1
    refine .inr ⟨h0, h1, ?_, ?_⟩
    · rw [← answer_past, ← answer_past]
      exact (answer_last h1 h2').symm
    · unfold steadyB
      rw [decide_eq_true (show 0 ≤ z ∧ z ≤ 1000 by omega), decide_eq_true (show z ≤ t ∧ t ≤ 1000 by omega), Bool.true_and, Bool.true_and]
      rw [steady_iff h1]
      intro x hx hzx hxt
      have := h2' x hx hxt
      rw [show x = z by omega]

/-- A chain of moves. -/
structure Chain (l : List TVersion) (t : Int) (A : TAddress) (Q : List TAddress) (r : TResource) : Prop where
  pos : 1 ≤ Q.length
  hd : Q.getD 0 nAddress = A
  dis : ∀ i j, i < j → j < Q.length → Q.getD i nAddress ≠ Q.getD j nAddress
  mv : ∀ i, i + 1 < Q.length → (answer l (Q.getD i nAddress) t).f0 = 3 ∧ (answer l (Q.getD i nAddress) t).f2 = Q.getD (i + 1) nAddress
  lst : ∀ i, i + 1 = Q.length → answer l (Q.getD i nAddress) t = r
theorem getD_left {α : Type} {l : List α} {x d : α} {i : Nat} (h : i < l.length) : (l ++ [x]).getD i d = l.getD i d := by
  rw [List.getD_eq_getElem?_getD, List.getElem?_append_left h, ← List.getD_eq_getElem?_getD]
theorem getD_last {α : Type} {l : List α} {x d : α} : (l ++ [x]).getD l.length d = x := by simp
theorem Chain.start (l : List TVersion) (t : Int) (A : TAddress) : Chain l t A [A] (answer l A t) :=
  ⟨Nat.le_refl _, rfl, fun i j h1 h2 => by simp at h2; omega, fun i h => by simp at h, fun i h => by simp at h; subst h; rfl⟩
theorem Chain.next {l : List TVersion} {t : Int} {A : TAddress} {Q : List TAddress} {r : TResource} (h : Chain l t A Q r) (hm : moves Q r = true) : Chain l t A (Q ++ [r.f2]) (answer l r.f2 t) := by
  unfold moves at hm
  simp only [Bool.and_eq_true, decide_eq_true_eq, Bool.not_eq_true'] at hm
  obtain ⟨h3, _, hno⟩ := hm
  have hno' : r.f2 ∉ Q := fun hc => by rw [hasA_mem.2 hc] at hno; cases hno
  have hp := h.pos
  refine ⟨by simp, by rw [getD_left (by omega)]; exact h.hd, fun i j hij hj => ?_, fun i hi => ?_, fun i hi => ?_⟩
  · rw [List.length_append, List.length_singleton] at hj
    rw [getD_left (show i < Q.length by omega)]
    by_cases he : j < Q.length
    · rw [getD_left he]; exact h.dis i j hij he
    · rw [show j = Q.length by omega, getD_last]
      intro e
      exact hno' (by rw [← e]; exact getD_mem (by omega))
  · rw [List.length_append, List.length_singleton] at hi
    rw [getD_left (show i < Q.length by omega)]
    by_cases he : i + 1 < Q.length
    · rw [getD_left he]; exact h.mv i he
    · rw [show i + 1 = Q.length by omega, getD_last, h.lst i (by omega)]
      exact ⟨h3, rfl⟩
  · rw [List.length_append, List.length_singleton] at hi
    rw [show i = Q.length by omega, getD_last]
theorem Chain.fol {l : List TVersion} {t : Int} {A : TAddress} : ∀ {k : Nat} {Q : List TAddress} {r : TResource}, Chain l t A Q r → Chain l t A (fol l t k Q r).1 (fol l t k Q r).2
  | 0, _, _, h => h
  | k + 1, Q, r, h => by
    unfold Sites.fol
    split
    · rename_i hm
      exact Chain.fol (h.next hm)
    · exact h
theorem followed_chain (l : List TVersion) (A : TAddress) (t : Int) : Chain l t A (followed l A t).1 (followed l A t).2 ∧ (followed l A t).1.length ≤ 5 :=
  ⟨Chain.fol (Chain.start l t A), fol_len rfl⟩

/-- What is drawn: small. -/
def SmallV (P : TVersion) : Prop := WfA P.f0 ∧ 0 ≤ P.f1 ∧ P.f1 ≤ 12 ∧ P.f2.f1.length ≤ 4
theorem sumTo_all {g : Nat → Nat} {m : Nat} : ∀ {n : Nat}, (∀ i, i < n → g i ≤ m) → sumTo g n ≤ n * m
  | 0, _ => Nat.zero_le _
  | n + 1, h => by
    have h1 := sumTo_all (g := g) (m := m) (n := n) fun i hi => h i (by omega)
    have h2 := h n (by omega)
    rw [Nat.succ_mul]
    show sumTo g n + g n ≤ _
    omega
theorem room_small {l : List TVersion} (h : ∀ P ∈ l, SmallV P) : room (dVersion l) ≤ l.length * 5 := by
  have e : room (dVersion l) = l.length + sumTo (fun i => sumTo (fun x => room ((l.getD i nVersion).c x)) 9) l.length := rfl
  have h1 : sumTo (fun i => sumTo (fun x => room ((l.getD i nVersion).c x)) 9) l.length ≤ l.length * 4 := sumTo_all fun i hi => by
    rw [room_Version, room_ints]
    exact (h _ (getD_mem hi)).2.2.2
  omega
end Go.Proofs.Ytagnhfalmefbhaa.Sites
