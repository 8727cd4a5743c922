/-
  EqualInts, of the program (a label that is jumped back to) and of the model: whether two rows of integers are the same list.
  Conditions: the rows lie in memory.
-/
import Derived.Test.YtedjclnojocjkaaDoorInts
import Derived.WalkMore
import Derived.ScopeJumps
namespace Go.Proofs.YtedjclnojocjkaaDoor.EqI
open Go Go.RowKit Go.Proofs.YtedjclnojocjkaaDoor.Mem
set_option linter.unusedVariables false

/-- How far two lists are the same. -/
def pre : List Int → List Int → Nat
  | x :: xs, y :: ys => if x = y then pre xs ys + 1 else 0
  | _, _ => 0
theorem pre_nil_left (ys : List Int) : pre [] ys = 0 := by cases ys <;> rfl
theorem pre_nil_right (xs : List Int) : pre xs [] = 0 := by cases xs <;> rfl
theorem pre_all : ∀ (xs ys : List Int), (pre xs ys = xs.length ∧ pre xs ys = ys.length) ↔ xs = ys := by
  intro xs
  induction xs with
  | nil => intro ys; rw [pre_nil_left]; cases ys <;> simp
  | cons x xs ih =>
    intro ys
    cases ys with
    | nil => simp [pre]
    | cons y ys =>
      unfold pre
      by_cases h : x = y
      · rw [if_pos h]
        have := ih ys
        simp only [List.length_cons, Nat.add_right_cancel_iff, List.cons.injEq]
        rw [this]
        exact ⟨fun e => ⟨h, e⟩, fun e => e.2⟩
      · rw [if_neg h]
        simp [h]
theorem drop_at {zs : List Int} {p : Nat} (h : p < zs.length) : zs.drop p = zs.getD p 0 :: zs.drop (p + 1) := by
  rw [List.drop_eq_getElem_cons h, List.getD_eq_getElem?_getD, List.getElem?_eq_getElem h]; rfl
theorem pre_next {xs ys : List Int} {j : Nat} (h1 : j < xs.length) (h2 : j < ys.length) (h : xs.getD j 0 = ys.getD j 0) : pre (xs.drop j) (ys.drop j) = pre (xs.drop (j + 1)) (ys.drop (j + 1)) + 1 := by
  rw [drop_at h1, drop_at h2, pre, if_pos h]
theorem pre_diff {xs ys : List Int} {j : Nat} (h1 : j < xs.length) (h2 : j < ys.length) (h : xs.getD j 0 ≠ ys.getD j 0) : pre (xs.drop j) (ys.drop j) = 0 := by
  rw [drop_at h1, drop_at h2, pre, if_neg h]
theorem pre_end1 {xs ys : List Int} {j : Nat} (h1 : xs.length ≤ j) : pre (xs.drop j) (ys.drop j) = 0 := by rw [List.drop_of_length_le h1]; exact pre_nil_left _
theorem pre_end2 {xs ys : List Int} {j : Nat} (h1 : ys.length ≤ j) : pre (xs.drop j) (ys.drop j) = 0 := by rw [List.drop_of_length_le h1]; exact pre_nil_right _
theorem pre_next' {xs ys : List Int} {j p : Nat} (h : j + pre (xs.drop j) (ys.drop j) = p) (h1 : j < xs.length) (h2 : j < ys.length) (he : xs.getD j 0 = ys.getD j 0) : j + 1 + pre (xs.drop (j + 1)) (ys.drop (j + 1)) = p := by
  rw [pre_next h1 h2 he] at h; omega

/-- The label's passes: so far the same. -/
def Pass (a b : Option Addr) (n m c d : Nat) (xs ys : List Int) (w : World) (a' : Act) (w' : World) : Prop :=
  ∃ (j q : Nat) (u6 u7 u8 u9 u10 u11 u12 u13 u14 u15 u16 u17 u18 u19 u20 u21 u22 u23 u24 u25 u26 u27 u28 : Value), a' = { tmps := #[.slice a n c, .slice b m d, undef, undef, .int .i64 0, .int .i64 j, u6, u7, u8, u9, u10, u11, u12, u13, u14, u15, u16, u17, u18, u19, u20, u21, u22, u23, u24, u25, u26, u27, u28, undef], defers := [] } ∧ j ≤ n ∧ j ≤ m ∧ Hid (j + pre (xs.drop j) (ys.drop j) = pre xs ys) ∧ w' = w.drewN q

end Go.Proofs.YtedjclnojocjkaaDoor.EqI
