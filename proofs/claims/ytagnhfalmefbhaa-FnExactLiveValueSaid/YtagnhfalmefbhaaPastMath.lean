/-
  Sites that change: the mathematics of the versions of one address: what they answer, their ticks.
  Conditions: none; nothing of the program stands here.
-/
import Derived.Test.YtagnhfalmefbhaaSiteMath
namespace Go.Proofs.Ytagnhfalmefbhaa.Sites
open Go Go.RowKit Go.Proofs.Ytagnhfalmefbhaa.Gen Go.Proofs.Ytagnhfalmefbhaa.Adr Go.Proofs.Ytagnhfalmefbhaa.Res

/-- The versions of an address among the first j. -/
def sel (l : List TVersion) (A : TAddress) (j : Nat) : List TVersion := (l.take j).filter fun V => sameA V.f0 A
theorem take_next {l : List TVersion} {j : Nat} (hj : j < l.length) : l.take (j + 1) = l.take j ++ [l.getD j nVersion] := by
  rw [List.take_add_one, List.getD_eq_getElem?_getD, List.getElem?_eq_getElem hj]
  rfl
theorem sel_zero (l : List TVersion) (A : TAddress) : sel l A 0 = [] := rfl
theorem sel_yes {l : List TVersion} {A : TAddress} {j : Nat} (hj : j < l.length) (h : sameA (l.getD j nVersion).f0 A = true) : sel l A (j + 1) = sel l A j ++ [l.getD j nVersion] := by
  unfold sel
  rw [take_next hj, List.filter_append]
  congr 1
  rw [List.filter_cons, h]
  rfl
theorem sel_no {l : List TVersion} {A : TAddress} {j : Nat} (hj : j < l.length) (h : sameA (l.getD j nVersion).f0 A = false) : sel l A (j + 1) = sel l A j := by
  unfold sel
  rw [take_next hj, List.filter_append, List.filter_cons, h]
  simp
theorem sel_len (l : List TVersion) (A : TAddress) (j : Nat) : (sel l A j).length ≤ j := Nat.le_trans (List.length_filter_le _ _) (by rw [List.length_take]; omega)
def past (l : List TVersion) (A : TAddress) : List TVersion := sel l A l.length
theorem past_mem {l : List TVersion} {A : TAddress} {V : TVersion} (h : V ∈ past l A) : V ∈ l ∧ V.f0 = A := by
  unfold past sel at h
  rw [List.take_length, List.mem_filter] at h
  exact ⟨h.1, sameA_iff.1 h.2⟩
/-- What a past gives its readers. -/
theorem past_len {l : List TVersion} (hm : room (dVersion l) ≤ 1048576) (A : TAddress) : (past l A).length ≤ 1048576 ∧ ∀ i, i < (past l A).length → ((past l A).getD i nVersion).f2.f1.length ≤ 1048576 := by
  have hl : l.length ≤ 1048576 := by have : room (dVersion l) = l.length + _ := rfl; omega
  refine ⟨Nat.le_trans (sel_len _ _ _) hl, fun i hi => ?_⟩
  have hmem : (past l A).getD i nVersion ∈ past l A := by rw [List.getD_eq_getElem?_getD, List.getElem?_eq_getElem hi]; exact List.getElem_mem _
  obtain ⟨j, hj, e⟩ := List.getElem_of_mem (past_mem hmem).1
  have := room_body (l := l) hj
  rw [room_ints, List.getD_eq_getElem?_getD, List.getElem?_eq_getElem hj, Option.getD_some, e] at this
  omega

/-- What the versions of one address answer. -/
def late (t : Int) (r : TResource) (V : TVersion) : TResource := if decide (V.f1 ≤ t) = true then V.f2 else r
def answerIn (p : List TVersion) (t : Int) : TResource := p.foldl (late t) noneR
theorem answerIn_nil (t : Int) : answerIn [] t = noneR := rfl
theorem answerIn_snoc (p : List TVersion) (V : TVersion) (t : Int) : answerIn (p ++ [V]) t = late t (answerIn p t) V := by simp [answerIn]
theorem answer_sel (l : List TVersion) (A : TAddress) (t : Int) : ∀ j, j ≤ l.length → answerIn (sel l A j) t = answerTo l A t j
  | 0, _ => rfl
  | j + 1, h => by
    have ih := answer_sel l A t j (by omega)
    cases hs : sameA (l.getD j nVersion).f0 A with
    | true =>
      rw [sel_yes (by omega) hs, answerIn_snoc, ih]
      simp only [late, answerTo, hit, hs, Bool.true_and]
    | false =>
      rw [sel_no (by omega) hs, ih]
      simp only [answerTo, hit, hs, Bool.false_and, Bool.false_eq_true, if_false]
theorem answer_past (l : List TVersion) (A : TAddress) (t : Int) : answerIn (past l A) t = answer l A t := answer_sel l A t _ (Nat.le_refl _)
theorem answerIn_from (p : List TVersion) (t : Int) : answerIn p t = noneR ∨ ∃ V, V ∈ p ∧ answerIn p t = V.f2 := by
  obtain ⟨q, hq⟩ : ∃ q, q = p.reverse := ⟨_, rfl⟩
  have : p = q.reverse := by rw [hq, List.reverse_reverse]
  subst this
  clear hq
  induction q with
  | nil => exact .inl rfl
  | cons V q ih =>
    rw [List.reverse_cons, answerIn_snoc]
    unfold late
    split
    · exact .inr ⟨V, by simp, rfl⟩
    · rcases ih with h | ⟨U, h1, h2⟩
      · exact .inl h
      · exact .inr ⟨U, by simp only [List.mem_append]; exact .inl h1, h2⟩
/-- Going backward: what the first k answer. -/
theorem back_yes {p : List TVersion} {k : Nat} {t : Int} (hk : k < p.length) (h : decide ((p.getD k nVersion).f1 ≤ t) = true) : answerIn (p.take (k + 1)) t = (p.getD k nVersion).f2 := by
  rw [take_next hk, answerIn_snoc, late, if_pos h]
theorem back_no {p : List TVersion} {k : Nat} {t : Int} (hk : k < p.length) (h : decide ((p.getD k nVersion).f1 ≤ t) = false) : answerIn (p.take (k + 1)) t = answerIn (p.take k) t := by
  rw [take_next hk, answerIn_snoc, late, if_neg (by rw [h]; simp)]

/-- A number is put into an ascending list. -/
def put : List Int → Int → List Int
  | [], n => [n]
  | x :: l, n => if x < n then x :: put l n else if x = n then x :: l else n :: x :: l
def Asc (l : List Int) : Prop := l.Pairwise (· < ·)
theorem put_mem {l : List Int} {n x : Int} : x ∈ put l n ↔ x = n ∨ x ∈ l := by
  induction l with
  | nil => simp [put]
  | cons y l ih =>
    simp only [put]
    split
    · simp only [List.mem_cons, ih]
      constructor
      · rintro (h | h | h) <;> simp [h]
      · rintro (h | h | h) <;> simp [h]
    · split
      · rename_i h1 h2
        subst h2
        simp
      · simp
theorem put_asc {l : List Int} {n : Int} (h : Asc l) : Asc (put l n) := by
  induction l with
  | nil => simp [put, Asc]
  | cons y l ih =>
    unfold Asc at *
    have h' := List.pairwise_cons.1 h
    simp only [put]
    split
    · rename_i hlt
      refine List.pairwise_cons.2 ⟨fun x hx => ?_, ih h'.2⟩
      rcases put_mem.1 hx with rfl | hx
      · exact hlt
      · exact h'.1 x hx
    · split
      · exact h
      · refine List.pairwise_cons.2 ⟨fun x hx => ?_, h⟩
        rcases List.mem_cons.1 hx with rfl | hx
        · omega
        · have := h'.1 x hx; omega
theorem asc_eq : ∀ {l m : List Int}, Asc l → Asc m → (∀ x, x ∈ l ↔ x ∈ m) → l = m
  | [], [], _, _, _ => rfl
  | [], y :: m, _, _, h => absurd ((h y).2 (by simp)) (by simp)
  | x :: l, [], _, _, h => absurd ((h x).1 (by simp)) (by simp)
  | x :: l, y :: m, hl, hm, h => by
    have hl' := List.pairwise_cons.1 hl
    have hm' := List.pairwise_cons.1 hm
    have e : x = y := by
      rcases List.mem_cons.1 ((h x).1 (by simp)) with e | e
      · exact e
      · rcases List.mem_cons.1 ((h y).2 (by simp)) with e' | e'
        · exact e'.symm
        · have a1 := hm'.1 x e; have a2 := hl'.1 y e'; omega
    subst e
    refine congrArg (x :: ·) (asc_eq hl'.2 hm'.2 fun z => ?_)
    constructor
    · intro hz
      rcases List.mem_cons.1 ((h z).1 (by simp [hz])) with e | e
      · have := hl'.1 z hz; omega
      · exact e
    · intro hz
      rcases List.mem_cons.1 ((h z).2 (by simp [hz])) with e | e
      · have := hm'.1 z hz; omega
      · exact e
/-- The ticks of a list of versions, ascending, each once. -/
def ticks (p : List TVersion) : List Int := p.foldl (fun l V => put l V.f1) []
theorem ticks_snoc (p : List TVersion) (V : TVersion) : ticks (p ++ [V]) = put (ticks p) V.f1 := by simp [ticks]
theorem ticks_all (p : List TVersion) : Asc (ticks p) ∧ ∀ x, x ∈ ticks p ↔ x ∈ p.map (·.f1) := by
  obtain ⟨q, hq⟩ : ∃ q, q = p.reverse := ⟨_, rfl⟩
  have : p = q.reverse := by rw [hq, List.reverse_reverse]
  subst this
  clear hq
  induction q with
  | nil => exact ⟨by simp [ticks, Asc], fun x => by simp [ticks]⟩
  | cons V q ih =>
    rw [List.reverse_cons, ticks_snoc]
    refine ⟨put_asc ih.1, fun x => ?_⟩
    rw [put_mem, ih.2]
    simp [or_comm]
theorem ticks_len (p : List TVersion) : (ticks p).length ≤ p.length := by
  obtain ⟨q, hq⟩ : ∃ q, q = p.reverse := ⟨_, rfl⟩
  have : p = q.reverse := by rw [hq, List.reverse_reverse]
  subst this
  clear hq
  have put_len : ∀ (l : List Int) n, (put l n).length ≤ l.length + 1 := fun l n => by
    induction l with
    | nil => simp [put]
    | cons y l ih =>
      simp only [put]
      split
      · simp only [List.length_cons]; omega
      · split
        · simp only [List.length_cons]; omega
        · simp only [List.length_cons]; omega
  induction q with
  | nil => simp [ticks]
  | cons V q ih =>
    rw [List.reverse_cons, ticks_snoc]
    have := put_len (ticks q.reverse) V.f1
    simp only [List.length_append, List.length_cons, List.length_nil]
    omega
end Go.Proofs.Ytagnhfalmefbhaa.Sites
