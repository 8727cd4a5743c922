/-
  What the law of the machine asks: a step keeps a state valid; what a step needs. Plain mathematics.
  Conditions: none.
-/
import Derived.Test.YtbohkohccnieiaaMachW
import Derived.Test.YtbohkohccnieiaaAdr
namespace Go.Proofs.Ytbohkohccnieiaa.Mach
open Go Go.RowKit Go.Proofs.Ytbohkohccnieiaa.Mem Go.Proofs.Ytbohkohccnieiaa.Gen Go.Proofs.Ytbohkohccnieiaa.Scripts

theorem same_refl (S : TState) : sameB S S = true := by unfold sameB; simp
theorem step_no {l : List TOp} {S : TState} (h : canB l S = false) (v : Int) : step l S v = S := by unfold step; rw [h]; rfl
theorem want_no {l : List TOp} {S : TState} (h : canB l S = false) : wantOf l S = noWant := by unfold wantOf; rw [h]; rfl
theorem start_ok : stateB startS = true := by decide
theorem op_at {l : List TOp} {S : TState} (h : canB l S = true) : okO (opAt l S) = true ∧ S.f0 ≤ 15 := by
  obtain ⟨h1, h2, h3, h4⟩ := can_at h
  have hl : l.length ≤ 16 := by unfold scriptB at h1; simp only [Bool.and_eq_true, decide_eq_true_eq] at h1; exact h1.1
  exact ⟨ok_at h1 (by omega), by omega⟩
theorem state_mk {z : Int} {f1 f2 f3 : List Int} (h0 : 0 ≤ z) (h1 : z ≤ 19) (k1 : cellsB 4 f1 = true) (k2 : cellsB 3 f2 = true) (k3 : cellsB 4 f3 = true) : stateB ⟨z, f1, f2, f3⟩ = true := by
  unfold stateB
  simp only [k1, k2, k3, inR_yes h0 h1, Bool.and_self]
theorem reg_at {n : Int} {f : List Int} {j : Int} (h : cellsB n f = true) (h0 : 0 ≤ j) (h1 : j < n) : 0 ≤ f.getD j.toNat 0 ∧ f.getD j.toNat 0 ≤ 999 := by
  have := (cellsB_at h).1
  exact cellsB_get h (by omega)
theorem stepped_len (o : TOp) (S : TState) (v : Int) : (stepped o S v).f1.length = S.f1.length ∧ (stepped o S v).f2.length = S.f2.length ∧ (stepped o S v).f3.length = S.f3.length := by
  unfold stepped
  repeat' split
  all_goals simp only [List.length_set, and_self]
theorem step_len (l : List TOp) (S : TState) (v : Int) : (step l S v).f1.length = S.f1.length ∧ (step l S v).f2.length = S.f2.length ∧ (step l S v).f3.length = S.f3.length := by
  unfold step
  split
  · exact stepped_len _ _ _
  · exact ⟨rfl, rfl, rfl⟩
/-- A step keeps a state valid, and goes on by one to four. -/
theorem step_yes {l : List TOp} {S : TState} (h : canB l S = true) (v : Int) : stateB (step l S v) = true ∧ S.f0 < (step l S v).f0 ∧ (step l S v).f0 ≤ S.f0 + 4 := by
  obtain ⟨ho, h15⟩ := op_at h
  obtain ⟨_, hs, hp0, _⟩ := can_at h
  obtain ⟨k1, k2, k3, _, _⟩ := state_at hs
  obtain ⟨na, _, n5, n6, n7, n8, n9⟩ := nums_at ho
  have hk := kind_at ho
  unfold step
  rw [if_pos h]
  generalize opAt l S = o at na n5 n6 n7 n8 n9 hk ⊢
  clear ho
  obtain ⟨k, a, b, c⟩ := o
  dsimp only at na n5 n6 n7 n8 n9 hk ⊢
  have ra := reg_at k1 na.1 (by omega)
  have ht := taken_in v
  have hput : stateB ⟨S.f0 + 1, S.f1.set a.toNat (taken v), S.f2, S.f3⟩ = true := state_mk (by omega) (by omega) (cellsB_set k1 _ ht.1 ht.2) k2 k3
  have hkk := kinds k hk.1 hk.2
  unfold stepped
  cases hkk <;> dsimp only
  case k1 => simp only [show ¬ (1 : Int) = 5 by decide, show ¬ (1 : Int) = 6 by decide, show ¬ (1 : Int) = 7 by decide, show ¬ (1 : Int) = 8 by decide, show ¬ (1 : Int) = 9 by decide, if_false]; exact ⟨hput, by omega, by omega⟩
  case k2 => simp only [show ¬ (2 : Int) = 5 by decide, show ¬ (2 : Int) = 6 by decide, show ¬ (2 : Int) = 7 by decide, show ¬ (2 : Int) = 8 by decide, show ¬ (2 : Int) = 9 by decide, if_false]; exact ⟨hput, by omega, by omega⟩
  case k3 => simp only [show ¬ (3 : Int) = 5 by decide, show ¬ (3 : Int) = 6 by decide, show ¬ (3 : Int) = 7 by decide, show ¬ (3 : Int) = 8 by decide, show ¬ (3 : Int) = 9 by decide, if_false]; exact ⟨hput, by omega, by omega⟩
  case k4 => simp only [show ¬ (4 : Int) = 5 by decide, show ¬ (4 : Int) = 6 by decide, show ¬ (4 : Int) = 7 by decide, show ¬ (4 : Int) = 8 by decide, show ¬ (4 : Int) = 9 by decide, if_false]; exact ⟨hput, by omega, by omega⟩
  case k5 =>
    have n5 := n5 rfl
    have rb := reg_at k1 n5.1.1 (by omega)
    have rc := reg_at k1 n5.2.1 (by omega)
    rw [if_pos rfl]
    exact ⟨state_mk (by omega) (by omega) (cellsB_set k1 _ (by omega) (by omega)) k2 k3, by dsimp only; omega, by dsimp only; omega⟩
  case k6 =>
    rw [if_neg (by decide), if_pos rfl]
    exact ⟨state_mk (by omega) (by omega) k1 k2 (cellsB_set k3 _ ra.1 ra.2), by dsimp only; omega, by dsimp only; omega⟩
  case k7 =>
    have n7 := n7 rfl
    rw [if_neg (by decide), if_neg (by decide), if_pos rfl]
    by_cases he : S.f1.getD a.toNat 0 % 2 = 0
    · rw [if_pos he]; exact ⟨state_mk (by omega) (by omega) k1 k2 k3, by dsimp only; omega, by dsimp only; omega⟩
    · rw [if_neg he]; exact ⟨state_mk (by omega) (by omega) k1 k2 k3, by dsimp only; omega, by dsimp only; omega⟩
  case k8 =>
    have n8 := n8 rfl
    have rb := reg_at k2 n8.1 (by omega)
    rw [if_neg (by decide), if_neg (by decide), if_neg (by decide), if_pos rfl]
    exact ⟨state_mk (by omega) (by omega) (cellsB_set k1 _ rb.1 rb.2) k2 k3, by dsimp only; omega, by dsimp only; omega⟩
  case k9 =>
    rw [if_neg (by decide), if_neg (by decide), if_neg (by decide), if_neg (by decide), if_pos rfl]
    exact ⟨state_mk (by omega) (by omega) k1 (cellsB_set k2 _ ra.1 ra.2) k3, by dsimp only; omega, by dsimp only; omega⟩
/-- What a step needs: nothing, and then its value does not matter; or something that asks, and then what it fetches has an address. -/
theorem want_yes {l : List TOp} {S : TState} (h : canB l S = true) : ((wantOf l S).f0 = 0 ∧ ∀ u v, step l S u = step l S v) ∨ (1 ≤ (wantOf l S).f0 ∧ (wantOf l S).f0 ≤ 4 ∧ ((wantOf l S).f0 = 1 → Adr.okA (wantOf l S).f1.f0 (wantOf l S).f1.f1 (wantOf l S).f1.f2 = true)) := by
  obtain ⟨ho, h15⟩ := op_at h
  obtain ⟨_, hs, hp0, _⟩ := can_at h
  obtain ⟨k1, k2, k3, _, _⟩ := state_at hs
  obtain ⟨na, n1, _⟩ := nums_at ho
  have hk := kind_at ho
  by_cases ha : asksB (opAt l S).f0 = true
  · right
    have hw : wantOf l S = (if (opAt l S).f0 = 1 then ⟨(opAt l S).f0, ⟨(opAt l S).f2, (opAt l S).f3, S.f1.getD (opAt l S).f1.toNat 0 % 100⟩⟩ else ⟨(opAt l S).f0, ⟨0, 0, 0⟩⟩) := by unfold wantOf; rw [if_pos ⟨h, ha⟩]
    have hr : (1 ≤ (opAt l S).f0 ∧ (opAt l S).f0 ≤ 4) := by unfold asksB inR at ha; simpa using ha
    rw [hw]
    by_cases he : (opAt l S).f0 = 1
    · rw [if_pos he]
      have n1 := n1 he
      have ra := reg_at k1 na.1 (by omega)
      refine ⟨hr.1, hr.2, fun _ => ?_⟩
      unfold Adr.okA
      simp only [decide_eq_true_eq]
      omega
    · rw [if_neg he]
      exact ⟨hr.1, hr.2, fun e => absurd e he⟩
  · left
    have hr : 5 ≤ (opAt l S).f0 := by
      unfold asksB inR at ha
      simp only [decide_eq_true_eq] at ha
      omega
    refine ⟨by unfold wantOf; rw [if_neg (fun e => ha e.2)]; rfl, fun u v => ?_⟩
    unfold step
    rw [if_pos h, if_pos h]
    unfold stepped
    by_cases e5 : (opAt l S).f0 = 5
    · rw [if_pos e5, if_pos e5]
    rw [if_neg e5, if_neg e5]
    by_cases e6 : (opAt l S).f0 = 6
    · rw [if_pos e6, if_pos e6]
    rw [if_neg e6, if_neg e6]
    by_cases e7 : (opAt l S).f0 = 7
    · rw [if_pos e7, if_pos e7]
    rw [if_neg e7, if_neg e7]
    by_cases e8 : (opAt l S).f0 = 8
    · rw [if_pos e8, if_pos e8]
    rw [if_neg e8, if_neg e8, if_pos (by omega), if_pos (by omega)]
end Go.Proofs.Ytbohkohccnieiaa.Mach
