/-
  What is put can be got, and taken again: the mathematics.
  Conditions: none.
-/
import Derived.Test.YtedjclnojocjkaaGreatDoorPutMath
import Derived.Test.YtedjclnojocjkaaGreatDoorStored
namespace Go.Proofs.YtedjclnojocjkaaGreatDoor.Parts
open Go Go.RowKit Go.Proofs.YtedjclnojocjkaaGreatDoor.Mem

theorem td_none {d : Int} : ∀ {l : List Prt}, (∀ P ∈ l, P.d ≠ d ∧ 1 ≤ P.u) → td d l = l
  | [], _ => rfl
  | P :: l, h => by
    have h1 := h P (by simp)
    have ih := td_none (d := d) (l := l) fun Q hQ => h Q (by simp [hQ])
    have e : dec1 d P = P := by unfold dec1; rw [if_neg h1.1]
    simp only [td]
    rw [e, if_pos (show 0 < P.u by omega), ih]
theorem td_pd {X : Prt} (hX : X.u = 1) : ∀ {l : List Prt}, l.Pairwise (fun P Q => P.d < Q.d) → (∀ P ∈ l, 1 ≤ P.u) → td X.d (pd X l) = l
  | [], _, _ => by
    have e : dec1 X.d X = dec X := by unfold dec1; rw [if_pos rfl]
    have e2 : (dec X).u = 0 := by show X.u - 1 = 0; omega
    simp only [pd, td]
    rw [e, e2, if_neg (by omega)]
  | P :: l, hp, hu => by
    have hr := List.pairwise_cons.1 hp
    have h0 := hu P (by simp)
    have hl : ∀ Q ∈ l, 1 ≤ Q.u := fun Q hQ => hu Q (by simp [hQ])
    simp only [pd]
    split
    · rename_i h1
      have e : dec1 X.d P = P := by unfold dec1; rw [if_neg (by omega)]
      simp only [td]
      rw [e, if_pos (show 0 < P.u by omega), td_pd hX hr.2 hl]
    · split
      · rename_i h1 h2
        have e : dec1 X.d (inc P) = P := by
          unfold dec1
          rw [if_pos (show (inc P).d = X.d from h2)]
          obtain ⟨d, k, zs, h, p, q, u⟩ := P
          simp [dec, inc]
        simp only [td]
        rw [e, if_pos (show 0 < P.u by omega), td_none fun Q hQ => ⟨by have := hr.1 Q hQ; omega, hl Q hQ⟩]
      · rename_i h1 h2
        have e : dec1 X.d X = dec X := by unfold dec1; rw [if_pos rfl]
        have e2 : (dec X).u = 0 := by show X.u - 1 = 0; omega
        rw [show td X.d (X :: P :: l) = (if 0 < (dec1 X.d X).u then dec1 X.d X :: td X.d (P :: l) else td X.d (P :: l)) from rfl]
        rw [e, e2, if_neg (by omega)]
        refine td_none fun Q hQ => ?_
        rcases List.mem_cons.1 hQ with rfl | hQ
        · exact ⟨by omega, h0⟩
        · exact ⟨by have := hr.1 Q hQ; omega, hl Q hQ⟩
theorem fnd_pd_yes {X : Prt} {l : List Prt} (hp : l.Pairwise (fun P Q => P.d < Q.d)) (h : fnd X.d l < l.length) : fnd X.d (pd X l) = fnd X.d l ∧ fnd X.d (pd X l) < (pd X l).length ∧ pt (pd X l) (fnd X.d (pd X l)) = inc (pt l (fnd X.d l)) := by
  have e := pd_found hp h
  have hK : fnd X.d (pd X l) = fnd X.d l := by
    rw [e]
    refine fnd_at X.d _ _ (by simp; omega) (fun i hi => ?_) (fun _ => ?_)
    · rw [show pt (l.set (fnd X.d l) (inc (pt l (fnd X.d l)))) i = pt l i by
        simp only [pt, List.getD_eq_getElem?_getD]; rw [List.getElem?_set_ne (by omega)]]
      exact fnd_ne X.d l i hi
    · rw [show pt (l.set (fnd X.d l) (inc (pt l (fnd X.d l)))) (fnd X.d l) = inc (pt l (fnd X.d l)) by simp [pt, List.getD_eq_getElem?_getD, h]]
      exact fnd_eq X.d l h
  refine ⟨hK, by rw [hK, e]; simpa using h, ?_⟩
  rw [hK, e]
  simp [pt, List.getD_eq_getElem?_getD, h]
theorem fnd_pd_no {X : Prt} : ∀ {l : List Prt}, ¬ fnd X.d l < l.length → fnd X.d (pd X l) < (pd X l).length ∧ pt (pd X l) (fnd X.d (pd X l)) = X
  | [], _ => by simp [pd, fnd, pt]
  | P :: l, h => by
    have hP : ¬ P.d = X.d := fun e => h (by simp [fnd, e])
    have e : fnd X.d (P :: l) = fnd X.d l + 1 := by simp [fnd, hP]
    rw [e] at h
    obtain ⟨h1, h2⟩ := fnd_pd_no (X := X) (l := l) (fun h' => h (by simpa using h'))
    simp only [pd]
    split
    · have e2 : fnd X.d (P :: pd X l) = fnd X.d (pd X l) + 1 := by simp [fnd, hP]
      rw [e2]
      exact ⟨by simpa using h1, by simpa [pt] using h2⟩
    · simp [fnd, pt]
theorem room_pd_yes {X : Prt} : ∀ {l : List Prt}, l.Pairwise (fun P Q => P.d < Q.d) → fnd X.d l < l.length → room (pd X l) = room l
  | [], _, h => by simp at h
  | P :: l, hp, h => by
    have hr := List.pairwise_cons.1 hp
    by_cases he : P.d = X.d
    · simp only [pd]
      rw [if_neg (by omega), if_pos he]
      rfl
    · have e : fnd X.d (P :: l) = fnd X.d l + 1 := by simp [fnd, he]
      rw [e] at h
      have hl : fnd X.d l < l.length := by simpa using h
      have h1 := fnd_eq X.d l hl
      have h2 := hr.1 _ (pt_mem hl)
      simp only [pd]
      rw [if_pos (by omega)]
      simp only [room]
      rw [room_pd_yes hr.2 hl]
theorem room_pd_no {X : Prt} : ∀ {l : List Prt}, ¬ fnd X.d l < l.length → room (pd X l) = room l + (1 + X.zs.length)
  | [], _ => by simp [pd, room]
  | P :: l, h => by
    have hP : ¬ P.d = X.d := fun e => h (by simp [fnd, e])
    have e : fnd X.d (P :: l) = fnd X.d l + 1 := by simp [fnd, hP]
    rw [e] at h
    have ih := room_pd_no (X := X) (l := l) (fun h' => h (by simpa using h'))
    simp only [pd]
    split
    · simp only [room]; omega
    · simp only [room]; omega
theorem costs_one {X : Prt} (h : X.u = 1) : costs X = (X.zs.length : Int) + 1 := by
  unfold costs
  rw [h, show clamp 1 = 1 by decide]
  omega
theorem costs_inc {P : Prt} (h0 : 1 ≤ P.u) (h1 : P.u + 1 ≤ 1000) : costs (inc P) = costs P + ((P.zs.length : Int) + 1) := by
  have e1 : clamp P.u = P.u := by unfold clamp; rw [if_neg (by omega), if_neg (by omega)]
  have e2 : clamp (inc P).u = P.u + 1 := by show clamp (P.u + 1) = _; unfold clamp; rw [if_neg (by omega), if_neg (by omega)]
  unfold costs
  rw [e1, e2]
  show ((P.zs.length : Int) + 1) * (P.u + 1) = _
  rw [Int.mul_add, Int.mul_one]
theorem each_pd_yes {X : Prt} : ∀ {l : List Prt}, l.Pairwise (fun P Q => P.d < Q.d) → fnd X.d l < l.length → 1 ≤ (pt l (fnd X.d l)).u → (pt l (fnd X.d l)).u + 1 ≤ 1000 → each (pd X l) = each l + (((pt l (fnd X.d l)).zs.length : Int) + 1)
  | [], _, h, _, _ => by simp at h
  | P :: l, hp, h, h3, h4 => by
    have hr := List.pairwise_cons.1 hp
    by_cases he : P.d = X.d
    · have e : fnd X.d (P :: l) = 0 := by simp [fnd, he]
      rw [e, show pt (P :: l) 0 = P from rfl] at h3 h4 ⊢
      simp only [pd]
      rw [if_neg (by omega), if_pos he]
      simp only [each]
      rw [costs_inc h3 h4]
      omega
    · have e : fnd X.d (P :: l) = fnd X.d l + 1 := by simp [fnd, he]
      rw [e, show pt (P :: l) (fnd X.d l + 1) = pt l (fnd X.d l) by simp [pt]] at h3 h4 ⊢
      rw [e] at h
      have hl : fnd X.d l < l.length := by simpa using h
      have h1 := fnd_eq X.d l hl
      have h2 := hr.1 _ (pt_mem hl)
      simp only [pd]
      rw [if_pos (by omega)]
      simp only [each]
      rw [each_pd_yes hr.2 hl h3 h4]
      omega
theorem each_pd_no {X : Prt} (hX : X.u = 1) : ∀ {l : List Prt}, ¬ fnd X.d l < l.length → each (pd X l) = each l + ((X.zs.length : Int) + 1)
  | [], _ => by simp only [pd, each]; rw [costs_one hX]; omega
  | P :: l, h => by
    have hP : ¬ P.d = X.d := fun e => h (by simp [fnd, e])
    have e : fnd X.d (P :: l) = fnd X.d l + 1 := by simp [fnd, hP]
    rw [e] at h
    have ih := each_pd_no hX (l := l) (fun h' => h (by simpa using h'))
    simp only [pd]
    split
    · simp only [each]; omega
    · simp only [each]; rw [costs_one hX]; omega
theorem room_each : ∀ {l : List Prt}, (∀ P ∈ l, 1 ≤ P.u) → (room l : Int) ≤ each l
  | [], _ => by simp [room, each]
  | P :: l, h => by
    have ih := room_each (l := l) fun Q hQ => h Q (by simp [hQ])
    have h1 := h P (by simp)
    have h2 : 1 ≤ clamp P.u := by unfold clamp; rw [if_neg (by omega)]; split <;> omega
    have h3 : (P.zs.length : Int) + 1 ≤ costs P := by
      unfold costs
      have := Int.mul_le_mul_of_nonneg_left h2 (show (0 : Int) ≤ (P.zs.length : Int) + 1 by omega)
      omega
    simp only [room, each]
    omega
end Go.Proofs.YtedjclnojocjkaaGreatDoor.Parts
