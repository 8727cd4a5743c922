/-
  A part put into a list of parts: the mathematics.
  Conditions: none.
-/
import Derived.Test.YtedjclnojocjkaaGreatDoorTakeS
namespace Go.Proofs.YtedjclnojocjkaaGreatDoor.Parts
open Go Go.RowKit Go.Proofs.YtedjclnojocjkaaGreatDoor.Mem

/-- One use more. -/
def inc (P : Prt) : Prt := { P with u := P.u + 1 }
/-- A part is put: it is used once more, or it stands anew in the order of the digests. -/
def pd (X : Prt) : List Prt → List Prt
  | [] => [X]
  | P :: l => if P.d < X.d then P :: pd X l else if P.d = X.d then inc P :: l else X :: P :: l
def pdI (x : Item) : List Item → List Item
  | [] => [x]
  | y :: m => if y.1.d < x.1.d then y :: pdI x m else if y.1.d = x.1.d then (inc y.1, y.2) :: m else x :: y :: m
theorem pdI_fst (x : Item) : ∀ m, (pdI x m).map (·.1) = pd x.1 (m.map (·.1))
  | [] => rfl
  | y :: m => by
    simp only [pdI, pd, List.map_cons]
    split
    · simp [pdI_fst x m]
    · split <;> simp
theorem pdI_mem {x : Item} : ∀ {m : List Item} {z : Item}, z ∈ pdI x m → z = x ∨ ∃ y ∈ m, z = y ∨ z = (inc y.1, y.2)
  | [], z, h => by simp [pdI] at h; exact .inl h
  | y :: m, z, h => by
    simp only [pdI] at h
    split at h
    · rcases List.mem_cons.1 h with rfl | h
      · exact .inr ⟨z, by simp, .inl rfl⟩
      · rcases pdI_mem h with h | ⟨t, h1, h2⟩
        · exact .inl h
        · exact .inr ⟨t, by simp [h1], h2⟩
    · split at h
      · rcases List.mem_cons.1 h with rfl | h
        · exact .inr ⟨y, by simp, .inr rfl⟩
        · exact .inr ⟨z, by simp [h], .inl rfl⟩
      · rcases List.mem_cons.1 h with rfl | h
        · exact .inl rfl
        · exact .inr ⟨z, h, .inl rfl⟩
theorem pdI_rising {x : Item} : ∀ {m : List Item}, Rising m → Rising (pdI x m)
  | [], _ => by simp [pdI, Rising]
  | y :: m, h => by
    have hr := List.pairwise_cons.1 h
    simp only [pdI]
    split
    · rename_i hlt
      refine List.pairwise_cons.2 ⟨fun z hz => ?_, pdI_rising hr.2⟩
      rcases pdI_mem hz with rfl | ⟨t, h1, rfl | rfl⟩
      · exact hlt
      · exact hr.1 _ h1
      · exact hr.1 t h1
    · rename_i hge
      split
      · exact List.pairwise_cons.2 ⟨fun z hz => hr.1 z hz, hr.2⟩
      · rename_i hne
        refine List.pairwise_cons.2 ⟨fun z hz => ?_, h⟩
        rcases List.mem_cons.1 hz with rfl | hz
        · omega
        · have := hr.1 z hz; omega
theorem lk_pdI {x : Item} : ∀ {m : List Item}, Rising m → ∀ k, lk k (pdI x m) = if k = x.1.d then (match lk x.1.d m with | some y => some (inc y.1, y.2) | none => some x) else lk k m
  | [], _, k => by
    simp only [pdI, lk]
    by_cases h : x.1.d = k
    · rw [if_pos h, if_pos h.symm]
    · rw [if_neg h, if_neg (fun e => h e.symm)]
  | y :: m, h, k => by
    have hr := List.pairwise_cons.1 h
    have ih := lk_pdI (x := x) hr.2 k
    simp only [pdI]
    split
    · rename_i hlt
      simp only [lk]
      rw [ih, if_neg (show ¬ y.1.d = x.1.d by omega)]
      by_cases hk : y.1.d = k
      · rw [if_pos hk, if_pos hk, if_neg (show ¬ k = x.1.d by omega)]
      · rw [if_neg hk, if_neg hk]
    · rename_i hge
      split
      · rename_i he
        simp only [lk]
        rw [if_pos he]
        by_cases hk : k = x.1.d
        · rw [if_pos hk, if_pos (show (inc y.1).d = k by show y.1.d = k; omega)]
        · rw [if_neg hk, if_neg (show ¬ (inc y.1).d = k by show ¬ y.1.d = k; omega), if_neg (show ¬ y.1.d = k by omega)]
      · rename_i hne
        have hno : lk x.1.d m = none := lk_none.2 fun z hz e => by have := hr.1 z hz; omega
        have e1 : lk x.1.d (y :: m) = none := by simp only [lk]; rw [if_neg hne, hno]
        have e2 : lk k (x :: y :: m) = if x.1.d = k then some x else lk k (y :: m) := rfl
        rw [e1, e2]
        by_cases hk : x.1.d = k
        · rw [if_pos hk, if_pos hk.symm]
        · rw [if_neg hk, if_neg (fun e : k = x.1.d => hk e.symm)]
theorem pd_room (X : Prt) : ∀ l, room (pd X l) ≤ room l + (1 + X.zs.length)
  | [] => by simp [pd, room]
  | P :: l => by
    have := pd_room X l
    simp only [pd]
    split
    · simp only [room]; omega
    · split
      · simp only [room]; show 1 + (inc P).zs.length + room l ≤ _; show 1 + P.zs.length + room l ≤ _; omega
      · simp only [room]; omega
theorem pd_len (X : Prt) : ∀ l, (pd X l).length ≤ l.length + 1
  | [] => by simp [pd]
  | P :: l => by
    have := pd_len X l
    simp only [pd]
    split
    · simp; omega
    · split <;> simp
/-- The part stands where the digests are no longer smaller. -/
theorem pd_split {X : Prt} : ∀ {l : List Prt} {j : Nat}, j ≤ l.length → (∀ i, i < j → (pt l i).d < X.d) → (j < l.length → X.d < (pt l j).d) → pd X l = l.take j ++ X :: l.drop j
  | [], j, h, _, _ => by
    obtain rfl : j = 0 := by simpa using h
    rfl
  | P :: l, 0, _, _, h2 => by
    have := h2 (by simp)
    rw [show pt (P :: l) 0 = P from rfl] at this
    simp only [pd, List.take_zero, List.drop_zero, List.nil_append]
    rw [if_neg (by omega), if_neg (by omega)]
  | P :: l, j + 1, h, h1, h2 => by
    have h0 := h1 0 (by omega)
    rw [show pt (P :: l) 0 = P from rfl] at h0
    simp only [pd, List.take_succ_cons, List.drop_succ_cons, List.cons_append]
    rw [if_pos h0, pd_split (j := j) (by simpa using h) (fun i hi => h1 (i + 1) (by omega)) (fun hj => h2 (by simpa using hj))]
/-- The part was there. -/
theorem pd_found {X : Prt} : ∀ {l : List Prt}, l.Pairwise (fun P Q => P.d < Q.d) → fnd X.d l < l.length → pd X l = l.set (fnd X.d l) (inc (pt l (fnd X.d l)))
  | [], _, h => by simp at h
  | P :: l, hp, h => by
    have hr := List.pairwise_cons.1 hp
    by_cases he : P.d = X.d
    · have e : fnd X.d (P :: l) = 0 := by simp [fnd, he]
      rw [e]
      simp only [pd, List.set_cons_zero]
      rw [if_neg (by omega), if_pos he]
      rfl
    · have e : fnd X.d (P :: l) = fnd X.d l + 1 := by simp [fnd, he]
      rw [e] at h ⊢
      have hl : fnd X.d l < l.length := by simpa using h
      have h1 := fnd_eq X.d l hl
      have h2 := hr.1 _ (pt_mem hl)
      simp only [pd, List.set_cons_succ]
      rw [if_pos (by omega), pd_found hr.2 hl]
      rfl
def putB (X : Prt) (l : List Prt) : Bool := storeB l && storeB (pd X l)
def putL (X : Prt) (l : List Prt) : List Prt := if putB X l = true then pd X l else l
theorem putL_room (X : Prt) (l : List Prt) : room (putL X l) ≤ room l + (1 + X.zs.length) := by
  unfold putL
  split
  · exact pd_room X l
  · omega
theorem Prt.Wf.inc {P : Prt} (h : P.Wf) (hu : P.u ≤ 1000) : (inc P).Wf := by
  obtain ⟨h0, h1, h2, h3, h4, h5⟩ := h
  refine ⟨h0, h1, h2, h3, h4, ?_⟩
  have := bounds_i64 h5
  exact WalkArith.wf_i64 (by show -9223372036854775808 ≤ P.u + 1 ∧ P.u + 1 ≤ 9223372036854775807; omega)
end Go.Proofs.YtedjclnojocjkaaGreatDoor.Parts
