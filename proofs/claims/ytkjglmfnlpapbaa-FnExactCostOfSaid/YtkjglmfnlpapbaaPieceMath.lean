/-
  Pieces that make a newer body of an older one: the mathematics.
  Conditions: none; nothing of the program stands here.
-/
import Derived.Test.YtkjglmfnlpapbaaPcbuf
namespace Go.Proofs.Ytkjglmfnlpapbaa.Pieces
open Go Go.RowKit Go.Proofs.Ytkjglmfnlpapbaa.Mem

/-- How many places from j on hold p, one after the other; at most k. -/
def run (p : Nat → Bool) : Nat → Nat → Nat
  | 0, j => j
  | k + 1, j => if p j then run p k (j + 1) else j
theorem run_from (p : Nat → Bool) : ∀ (k j e : Nat), j ≤ e → e ≤ j + k → (∀ i, j ≤ i → i < e → p i = true) → (e < j + k → p e = false) → run p k j = e
  | 0, j, e, h1, h2, _, _ => by simp only [run]; omega
  | k + 1, j, e, h1, h2, h3, h4 => by
    simp only [run]
    by_cases he : j = e
    · subst he
      rw [if_neg (by rw [h4 (by omega)]; simp)]
    · rw [if_pos (h3 j (Nat.le_refl _) (by omega))]
      exact run_from p k (j + 1) e (by omega) (by omega) (fun i hi hie => h3 i (by omega) hie) (fun h => h4 (by omega))
theorem run_spec (p : Nat → Bool) : ∀ (k j : Nat), j ≤ run p k j ∧ run p k j ≤ j + k ∧ (∀ i, j ≤ i → i < run p k j → p i = true) ∧ (run p k j < j + k → p (run p k j) = false)
  | 0, j => by simp only [run]; exact ⟨Nat.le_refl _, Nat.le_refl _, fun i h1 h2 => by omega, fun h => by omega⟩
  | k + 1, j => by
    simp only [run]
    by_cases hp : p j = true
    · rw [if_pos hp]
      obtain ⟨h1, h2, h3, h4⟩ := run_spec p k (j + 1)
      refine ⟨by omega, by omega, fun i hi hie => ?_, fun h => h4 (by omega)⟩
      by_cases he : i = j
      · subst he; exact hp
      · exact h3 i (by omega) hie
    · rw [if_neg hp]
      exact ⟨Nat.le_refl _, by omega, fun i h1 h2 => by omega, fun _ => by simpa using hp⟩
/-- The longest common beginning. -/
def fore (xs ys : List Int) : Nat := run (fun i => decide (xs.getD i 0 = ys.getD i 0)) (min xs.length ys.length) 0
/-- The longest common end of what stands behind the first a. -/
def aft (xs ys : List Int) (a : Nat) : Nat := run (fun i => decide (xs.getD (xs.length - 1 - i) 0 = ys.getD (ys.length - 1 - i) 0)) (min xs.length ys.length - a) 0
def piecesL (xs ys : List Int) : List Pc :=
  if 100 < xs.length ∨ 100 < ys.length then [] else
  [⟨0, fore xs ys, (ys.take (ys.length - aft xs ys (fore xs ys))).drop (fore xs ys)⟩, ⟨((xs.length - aft xs ys (fore xs ys) : Nat) : Int), aft xs ys (fore xs ys), []⟩]
@[irreducible] def Same (xs ys : List Int) (j : Nat) : Prop := ∀ i, i < j → xs.getD i 0 = ys.getD i 0
theorem Same.zero (xs ys : List Int) : Same xs ys 0 := by unfold Same; exact fun i h => absurd h (by omega)
theorem Same.next {xs ys : List Int} {j : Nat} (h : Same xs ys j) (hj : xs.getD j 0 = ys.getD j 0) : Same xs ys (j + 1) := by
  unfold Same at *
  intro i hi
  by_cases he : i = j
  · subst he; exact hj
  · exact h i (by omega)
theorem Same.stop {xs ys : List Int} {j : Nat} (h : Same xs ys j) (h1 : j ≤ xs.length) (h2 : j ≤ ys.length) (h3 : j < xs.length → j < ys.length → xs.getD j 0 ≠ ys.getD j 0) : fore xs ys = j := by
  unfold Same at h
  unfold fore
  refine run_from _ _ 0 j (Nat.zero_le _) (by omega) (fun i _ hi => by simpa using h i hi) (fun hj => ?_)
  simpa using h3 (by omega) (by omega)
@[irreducible] def SameE (xs ys : List Int) (j : Nat) : Prop := ∀ i, i < j → xs.getD (xs.length - 1 - i) 0 = ys.getD (ys.length - 1 - i) 0
theorem SameE.zero (xs ys : List Int) : SameE xs ys 0 := by unfold SameE; exact fun i h => absurd h (by omega)
theorem SameE.next {xs ys : List Int} {j : Nat} (h : SameE xs ys j) (hj : xs.getD (xs.length - 1 - j) 0 = ys.getD (ys.length - 1 - j) 0) : SameE xs ys (j + 1) := by
  unfold SameE at *
  intro i hi
  by_cases he : i = j
  · subst he; exact hj
  · exact h i (by omega)
theorem SameE.stop {xs ys : List Int} {a j : Nat} (h : SameE xs ys j) (h1 : a + j ≤ xs.length) (h2 : a + j ≤ ys.length) (h3 : a + j < xs.length → a + j < ys.length → xs.getD (xs.length - 1 - j) 0 ≠ ys.getD (ys.length - 1 - j) 0) : aft xs ys a = j := by
  unfold SameE at h
  unfold aft
  refine run_from _ _ 0 j (Nat.zero_le _) (by omega) (fun i _ hi => by simpa using h i hi) (fun hj => ?_)
  simpa using h3 (by omega) (by omega)
theorem fore_le (xs ys : List Int) : fore xs ys ≤ xs.length ∧ fore xs ys ≤ ys.length := by
  have h := (run_spec (fun i => decide (xs.getD i 0 = ys.getD i 0)) (min xs.length ys.length) 0).2.1
  unfold fore
  omega
theorem aft_le (xs ys : List Int) (a : Nat) (h1 : a ≤ xs.length) (h2 : a ≤ ys.length) : a + aft xs ys a ≤ xs.length ∧ a + aft xs ys a ≤ ys.length := by
  have h := (run_spec (fun i => decide (xs.getD (xs.length - 1 - i) 0 = ys.getD (ys.length - 1 - i) 0)) (min xs.length ys.length - a) 0).2.1
  unfold aft
  omega
theorem getD_at (xs : List Int) (i : Nat) (h : i < xs.length) : xs.getD i 0 = xs[i] := by simp [List.getD_eq_getElem?_getD, h]
theorem fore_same (xs ys : List Int) : xs.take (fore xs ys) = ys.take (fore xs ys) := by
  obtain ⟨h1, h2⟩ := fore_le xs ys
  have h := (run_spec (fun i => decide (xs.getD i 0 = ys.getD i 0)) (min xs.length ys.length) 0).2.2.1
  refine List.ext_getElem (by simp; omega) fun i g1 g2 => ?_
  have hi : i < fore xs ys := by simp at g1; omega
  have := h i (Nat.zero_le _) hi
  simp only [decide_eq_true_eq] at this
  rw [getD_at xs i (by omega), getD_at ys i (by omega)] at this
  simpa using this
theorem aft_same (xs ys : List Int) (a : Nat) (k1 : a ≤ xs.length) (k2 : a ≤ ys.length) : xs.drop (xs.length - aft xs ys a) = ys.drop (ys.length - aft xs ys a) := by
  obtain ⟨h1, h2⟩ := aft_le xs ys a k1 k2
  have h := (run_spec (fun i => decide (xs.getD (xs.length - 1 - i) 0 = ys.getD (ys.length - 1 - i) 0)) (min xs.length ys.length - a) 0).2.2.1
  refine List.ext_getElem (by simp; omega) fun i g1 g2 => ?_
  have hi : i < aft xs ys a := by simp at g1; omega
  have := h (aft xs ys a - 1 - i) (Nat.zero_le _) (by show aft xs ys a - 1 - i < aft xs ys a; omega)
  simp only [decide_eq_true_eq] at this
  rw [show xs.length - 1 - (aft xs ys a - 1 - i) = xs.length - aft xs ys a + i by omega, show ys.length - 1 - (aft xs ys a - 1 - i) = ys.length - aft xs ys a + i by omega, getD_at xs _ (by omega), getD_at ys _ (by omega)] at this
  simpa using this
/-- The pieces make the newer body. -/
theorem glued (xs ys : List Int) : xs.take (fore xs ys) ++ ((ys.take (ys.length - aft xs ys (fore xs ys))).drop (fore xs ys) ++ xs.drop (xs.length - aft xs ys (fore xs ys))) = ys := by
  obtain ⟨h1, h2⟩ := fore_le xs ys
  obtain ⟨h3, h4⟩ := aft_le xs ys _ h1 h2
  rw [fore_same, aft_same _ _ _ h1 h2, ← List.append_assoc]
  have e : ys.take (fore xs ys) = (ys.take (ys.length - aft xs ys (fore xs ys))).take (fore xs ys) := by
    rw [List.take_take]; congr 1; omega
  rw [e, List.take_append_drop, List.take_append_drop]
theorem fore_self (xs : List Int) : fore xs xs = xs.length := by
  unfold fore
  exact run_from _ _ 0 _ (Nat.zero_le _) (by omega) (fun i _ _ => by simp) (fun h => by omega)
theorem aft_none (xs ys : List Int) (a : Nat) (h : min xs.length ys.length ≤ a) : aft xs ys a = 0 := by
  unfold aft
  rw [show min xs.length ys.length - a = 0 by omega]
  rfl

/-- Whether a piece can be applied behind what there is. -/
def fits (n k : Nat) (P : Pc) : Bool := decide (0 ≤ P.f ∧ (0 ≤ P.m ∧ P.m ≤ n) ∧ P.f ≤ n - P.m ∧ (k : Int) + P.m + P.zs.length ≤ 1000)
def taken (xs : List Int) (P : Pc) : List Int := (xs.take (P.f + P.m).toNat).drop P.f.toNat ++ P.zs
def applyL (xs : List Int) : List Pc → List Int → Option (List Int)
  | [], out => some out
  | P :: l, out => if fits xs.length out.length P = true then applyL xs l (out ++ taken xs P) else none
def applyR (xs : List Int) (l : List Pc) : List Int := (applyL xs l []).getD []
def applyB (xs : List Int) (l : List Pc) : Bool := (applyL xs l []).isSome
theorem taken_len {xs : List Int} {n k : Nat} {P : Pc} (hn : xs.length = n) (h : fits n k P = true) : ((taken xs P).length : Int) = P.m + P.zs.length ∧ k + (taken xs P).length ≤ 1000 := by
  simp only [fits, decide_eq_true_eq] at h
  simp only [taken, List.length_append, List.length_drop, List.length_take]
  omega
theorem applyL_len {xs : List Int} : ∀ (l : List Pc) (out r : List Int), applyL xs l out = some r → out.length ≤ 1000 → r.length ≤ 1000 ∧ (r.length : Int) = out.length + (l.map fun P => P.m + (P.zs.length : Int)).sum
  | [], out, r, h, ho => by
    simp only [applyL, Option.some.injEq] at h
    subst h
    exact ⟨ho, by simp⟩
  | P :: l, out, r, h, ho => by
    simp only [applyL] at h
    split at h
    · rename_i hf
      obtain ⟨t1, t2⟩ := taken_len (k := out.length) rfl hf
      obtain ⟨h1, h2⟩ := applyL_len l _ r h (by simp only [List.length_append]; omega)
      refine ⟨h1, ?_⟩
      rw [h2]
      simp only [List.length_append, List.map_cons, List.sum_cons]
      omega
    · cases h
theorem applyR_len {xs : List Int} {l : List Pc} : (applyR xs l).length ≤ 1000 := by
  unfold applyR
  cases h : applyL xs l [] with
  | none => simp
  | some r => exact (applyL_len l [] r h (by simp)).1
theorem apply_none {xs : List Int} {l : List Pc} {j : Nat} {out : List Int} (hj : j < l.length) (h : applyL xs (l.drop j) out = applyL xs l []) (hf : fits xs.length out.length (pc l j) = false) : applyL xs l [] = none := by
  rw [List.drop_eq_getElem_cons hj] at h
  have e : l[j] = pc l j := by simp [pc, List.getD_eq_getElem?_getD, hj]
  rw [e] at h
  simp only [applyL] at h
  rw [if_neg (by rw [hf]; simp)] at h
  exact h.symm
theorem apply_some {xs : List Int} {l : List Pc} {j : Nat} {out : List Int} (hj : j < l.length) (h : applyL xs (l.drop j) out = applyL xs l []) (hf : fits xs.length out.length (pc l j) = true) : applyL xs (l.drop (j + 1)) (out ++ taken xs (pc l j)) = applyL xs l [] := by
  rw [List.drop_eq_getElem_cons hj] at h
  have e : l[j] = pc l j := by simp [pc, List.getD_eq_getElem?_getD, hj]
  rw [e] at h
  simp only [applyL] at h
  rw [if_pos hf] at h
  exact h
/-- The pieces of two bodies can be applied, and make the newer one. -/
theorem apply_pieces {xs ys : List Int} (hx : xs.length ≤ 100) (hy : ys.length ≤ 100) : applyL xs (piecesL xs ys) [] = some ys := by
  obtain ⟨h1, h2⟩ := fore_le xs ys
  obtain ⟨h3, h4⟩ := aft_le xs ys _ h1 h2
  obtain ⟨a, ha⟩ : ∃ a, fore xs ys = a := ⟨_, rfl⟩
  have hg := glued xs ys
  unfold piecesL
  rw [if_neg (by omega)]
  rw [ha] at h1 h2 h3 h4 hg ⊢
  obtain ⟨b, hb⟩ : ∃ b, aft xs ys a = b := ⟨_, rfl⟩
  rw [hb] at h3 h4 hg ⊢
  have t1 : taken xs ⟨0, (a : Int), (ys.take (ys.length - b)).drop a⟩ = xs.take a ++ (ys.take (ys.length - b)).drop a := by simp [taken]
  have t2 : taken xs ⟨((xs.length - b : Nat) : Int), (b : Int), []⟩ = xs.drop (xs.length - b) := by
    simp only [taken, List.append_nil, Int.toNat_natCast]
    rw [show (((xs.length - b : Nat) : Int) + (b : Int)).toNat = xs.length by omega, List.take_length]
  have f1 : fits xs.length ([] : List Int).length ⟨0, (a : Int), (ys.take (ys.length - b)).drop a⟩ = true := by
    simp only [fits, decide_eq_true_eq, List.length_drop, List.length_take, List.length_nil]
    omega
  simp only [applyL]
  rw [if_pos f1, t1, List.nil_append]
  have f2 : fits xs.length (xs.take a ++ (ys.take (ys.length - b)).drop a).length ⟨((xs.length - b : Nat) : Int), (b : Int), []⟩ = true := by
    simp only [fits, decide_eq_true_eq, List.length_append, List.length_drop, List.length_take, List.length_nil]
    omega
  rw [if_pos f2, t2, List.append_assoc, hg]
end Go.Proofs.Ytkjglmfnlpapbaa.Pieces
