/-
  A part taken once: the model.
  Conditions: the parts lie in memory, in all at most 2^20 numbers.
-/
import Derived.Test.YtedjclnojocjkaaGreatDoorCopyS
import Derived.Test.YtedjclnojocjkaaGreatDoorStore
import Derived.Test.YtedjclnojocjkaaGreatDoorFind
import Derived.Test.YtedjclnojocjkaaGreatDoorShelfMath
import Derived.Deep.CutBlock
import Derived.Deep.DeepCutAuto
namespace Go.Proofs.YtedjclnojocjkaaGreatDoor.Parts
open Go Go.RowKit Go.Proofs.YtedjclnojocjkaaGreatDoor.Mem Go.Proofs.YtedjclnojocjkaaGreatDoor.Adr Go.Proofs.YtedjclnojocjkaaGreatDoor.Res

/-- A list of parts of its own and a word. -/
def PAns (lo : Nat) (l : List Prt) (b : Bool) (w : World) (e : Ending) (w' : World) : Prop :=
  ∃ v G, e = .returned (.tuple #[v, .bool b]) ∧ PBuf 62 lo w'.heap.size w' v l.length l G ∧ Below lo w w'
def takeB (d : Int) (l : List Prt) : Bool := storeB l && decide (fnd d l < l.length)
def takeL (d : Int) (l : List Prt) : List Prt := if takeB d l = true then td d l else l

/-- What a store is. -/
theorem storeB_iff (l : List Prt) : storeB l = true ↔ l.length ≤ 30 ∧ (∀ P ∈ l, okP P = true) ∧ l.Pairwise (fun P Q => P.d < Q.d) := by
  have hlen : storeB l = true → l.length ≤ 30 := fun h => by
    rcases Nat.lt_or_ge 30 l.length with h1 | h1
    · rw [storeB_long h1] at h; cases h
    · exact h1
  have hat : storeB l = true → ∀ i, i < l.length → okAt l i = true := fun h i hi => by
    cases hk : okAt l i with
    | true => rfl
    | false => rw [storeB_no hi hk] at h; cases h
  have hptm : ∀ i (hi : i < l.length), pt l i = l[i] := fun i hi => by simp [pt, List.getD_eq_getElem?_getD, hi]
  constructor
  · intro h
    have h1 := hat h
    refine ⟨hlen h, fun P hP => ?_, ?_⟩
    · obtain ⟨i, hi, rfl⟩ := List.mem_iff_getElem.1 hP
      have := h1 i hi
      simp only [okAt, Bool.and_eq_true] at this
      rw [← hptm i hi]; exact this.1
    · have step : ∀ i, i + 1 < l.length → (pt l i).d < (pt l (i + 1)).d := fun i hi => by
        have := h1 (i + 1) hi
        simp only [okAt, Bool.and_eq_true, Bool.or_eq_true, decide_eq_true_eq] at this
        rcases this.2 with h2 | h2
        · omega
        · simpa using h2
      have far : ∀ k i, i + (k + 1) < l.length → (pt l i).d < (pt l (i + (k + 1))).d := by
        intro k
        induction k with
        | zero => intro i hi; exact step i hi
        | succ k ih =>
          intro i hi
          have a1 := ih i (by omega)
          have a2 := step (i + (k + 1)) (by omega)
          rw [show i + (k + 1 + 1) = i + (k + 1) + 1 by omega]
          omega
      rw [List.pairwise_iff_getElem]
      intro i j hi hj hij
      rw [← hptm i hi, ← hptm j hj]
      have := far (j - i - 1) i (by omega)
      rwa [show i + (j - i - 1 + 1) = j by omega] at this
  · rintro ⟨h1, h2, h3⟩
    have hf : Fine l l.length := fun i hi => by
      unfold okAt
      rw [Bool.and_eq_true]
      refine ⟨h2 _ (pt_mem hi), ?_⟩
      rw [Bool.or_eq_true, decide_eq_true_eq, decide_eq_true_eq]
      by_cases h0 : i = 0
      · exact .inl h0
      · right
        rw [hptm i hi, hptm (i - 1) (by omega)]
        exact (List.pairwise_iff_getElem.1 h3) (i - 1) i (by omega) hi (by omega)
    rw [storeB_yes hf]
    simpa using h1
theorem okP_uses {P : Prt} (h : okP P = true) : 1 ≤ P.u ∧ P.u ≤ 1000 := by
  simp only [okP, Bool.and_eq_true, decide_eq_true_eq] at h
  exact h.2.2
theorem okP_dec {P : Prt} (h : okP P = true) (hu : 0 < P.u - 1) : okP (dec P) = true := by
  have h1 := okP_uses h
  simp only [okP, Bool.and_eq_true, decide_eq_true_eq] at h ⊢
  refine ⟨h.1, h.2.1, ?_⟩
  show 1 ≤ P.u - 1 ∧ P.u - 1 ≤ 1000
  omega
/-- What is left of a store is a store. -/
theorem td_store {d : Int} {l : List Prt} (h : storeB l = true) : storeB (td d l) = true := by
  obtain ⟨h1, h2, h3⟩ := (storeB_iff l).1 h
  refine (storeB_iff _).2 ⟨Nat.le_trans (td_len d l) h1, fun P hP => ?_, td_rising d h3⟩
  obtain ⟨Q, hQ, rfl, hu⟩ := td_mem hP
  unfold dec1 at hu ⊢
  split
  · rename_i he
    rw [if_pos he] at hu
    exact okP_dec (h2 Q hQ) hu
  · exact h2 Q hQ
theorem td_room (d : Int) : ∀ l, room (td d l) ≤ room l
  | [] => Nat.le_refl _
  | P :: l => by
    have := td_room d l
    have e : (dec1 d P).zs.length = P.zs.length := by unfold dec1; split <;> rfl
    simp only [td]
    split <;> simp only [room] <;> omega
theorem Prt.Wf.dec {P : Prt} (h : P.Wf) (hu : 1 ≤ P.u) : (dec P).Wf := by
  obtain ⟨h0, h1, h2, h3, h4, h5⟩ := h
  refine ⟨h0, h1, h2, h3, h4, ?_⟩
  have := bounds_i64 h5
  exact WalkArith.wf_i64 (by show -9223372036854775808 ≤ P.u - 1 ∧ P.u - 1 ≤ 9223372036854775807; omega)
theorem td_drop {d : Int} {l : List Prt} {j : Nat} (h : j < l.length) : td d (l.drop j) = (if 0 < (dec1 d (pt l j)).u then [dec1 d (pt l j)] else []) ++ td d (l.drop (j + 1)) := by
  rw [List.drop_eq_getElem_cons h]
  have e : l[j] = pt l j := by simp [pt, List.getD_eq_getElem?_getD, h]
  rw [e]
  simp only [td]
  split <;> rfl
theorem fnd_only {d : Int} {l : List Prt} (h : l.Pairwise (fun P Q => P.d < Q.d)) {j : Nat} (hj : j < l.length) (hf : fnd d l < l.length) : (j = fnd d l) ↔ (pt l j).d = d := by
  constructor
  · rintro rfl; exact fnd_eq d l hf
  · intro he
    have h1 := fnd_eq d l hf
    have hptm : ∀ i (hi : i < l.length), pt l i = l[i] := fun i hi => by simp [pt, List.getD_eq_getElem?_getD, hi]
    rcases Nat.lt_trichotomy j (fnd d l) with h2 | h2 | h2
    · exact absurd he (fnd_ne d l j h2)
    · exact h2
    · have := (List.pairwise_iff_getElem.1 h) (fnd d l) j hf hj h2
      rw [← hptm _ hf, ← hptm _ hj] at this
      omega

end Go.Proofs.YtedjclnojocjkaaGreatDoor.Parts
