/-
  What the law of pieces asks: the mathematics.
  Conditions: none.
-/
import Derived.Test.YtkjglmfnlpapbaaPieceMath
namespace Go.Proofs.Ytkjglmfnlpapbaa.Pieces
open Go Go.RowKit Go.Proofs.Ytkjglmfnlpapbaa.Mem

theorem room_two {xs ys : List Int} (hx : xs.length ≤ 100) (hy : ys.length ≤ 100) : (piecesL xs ys).length = 2 ∧ room (piecesL xs ys) ≤ ys.length + 2 := by
  unfold piecesL
  rw [if_neg (by omega)]
  refine ⟨rfl, ?_⟩
  simp only [room, List.length_drop, List.length_take, List.length_nil]
  omega
theorem room_self {xs : List Int} (hx : xs.length ≤ 100) : room (piecesL xs xs) = 2 := by
  unfold piecesL
  rw [if_neg (by omega), fore_self, aft_none xs xs _ (by omega)]
  simp only [room, List.length_drop, List.length_take, List.length_nil]
  omega
def gain (l : List Pc) : Int := (l.map fun P => P.m + (P.zs.length : Int)).sum
theorem gain_next {l : List Pc} {j : Nat} (h : j < l.length) : gain (l.take (j + 1)) = gain (l.take j) + ((pc l j).m + ((pc l j).zs.length : Int)) := by
  unfold gain
  rw [List.take_succ_eq_append_getElem h]
  have e : l[j] = pc l j := by simp [pc, List.getD_eq_getElem?_getD, h]
  simp [e]
theorem applyL_part {xs : List Int} : ∀ (l : List Pc) (out r : List Int), applyL xs l out = some r → out.length ≤ 1000 → ∀ j, j ≤ l.length → 0 ≤ gain (l.take j) ∧ (out.length : Int) + gain (l.take j) ≤ 1000
  | _, out, _, _, ho, 0, _ => by simp [gain]; omega
  | [], _, _, _, _, j + 1, hj => by simp at hj
  | P :: l, out, r, h, ho, j + 1, hj => by
    simp only [applyL] at h
    split at h
    · rename_i hf
      obtain ⟨t1, t2⟩ := taken_len (k := out.length) rfl hf
      have hm : 0 ≤ P.m := by simp only [fits, decide_eq_true_eq] at hf; omega
      obtain ⟨h1, h2⟩ := applyL_part l _ r h (by simp only [List.length_append]; omega) j (by simpa using hj)
      have e : gain ((P :: l).take (j + 1)) = (P.m + (P.zs.length : Int)) + gain (l.take j) := by simp [gain]
      rw [e]
      simp only [List.length_append] at h2
      omega
    · cases h
theorem apply_gain {xs : List Int} {l : List Pc} (h : applyB xs l = true) : ((applyR xs l).length : Int) = gain l ∧ ∀ j, j ≤ l.length → 0 ≤ gain (l.take j) ∧ gain (l.take j) ≤ 1000 := by
  unfold applyB at h
  unfold applyR
  cases hr : applyL xs l [] with
  | none => rw [hr] at h; cases h
  | some r =>
    obtain ⟨_, h2⟩ := applyL_len l [] r hr (by simp)
    refine ⟨by simpa [gain] using h2, fun j hj => ?_⟩
    have := applyL_part l [] r hr (by simp) j hj
    simpa using this
theorem apply_no {xs : List Int} {l : List Pc} (h : applyB xs l = false) : applyR xs l = [] := by
  unfold applyB at h
  unfold applyR
  cases hr : applyL xs l [] with
  | none => rfl
  | some r => rw [hr] at h; cases h
end Go.Proofs.Ytkjglmfnlpapbaa.Pieces
