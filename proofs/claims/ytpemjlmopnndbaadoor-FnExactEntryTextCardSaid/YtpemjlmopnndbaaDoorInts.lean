/-
  The exact laws' helpers at []int: a copy, the test for equality, marks that are written, the test that they are held.
  Conditions: the rows lie in memory that was there; a copy has fewer than 2^45 elements.
-/
import Derived.Test.YtpemjlmopnndbaaDoorProg
import Derived.Test.YtpemjlmopnndbaaDoorMem
import Derived.WalkKit
import Derived.Outline
import Derived.BigQuiet
import Derived.Deep.QuietTactic
import Derived.OwnWalk
namespace Go.Proofs.YtpemjlmopnndbaaDoor.Nts
open Go Go.RowKit Go.Proofs.YtpemjlmopnndbaaDoor.Mem

theorem info : (Tryd.prog.info? 3).map (fun i => (i.zero, i.size, i.bytes)) = some (some (.int .i64 0), 1, 8) := by kernel_rfl

def Copied (zs : List Int) (j n : Nat) : List Int := zs.take j ++ List.replicate (n - j) 0
theorem copied_zero (zs : List Int) (n : Nat) : (madeCells #[Value.int .i64 0] (n * 1)).toList = (Copied zs 0 n).map (Value.int .i64) := by
  rw [toList_madeCells_one]; simp [Copied]
theorem copied_next (zs : List Int) (j n : Nat) (h : j < n) (hz : zs.length = n) : (Copied zs j n).set j (zs.getD j 0) = Copied zs (j + 1) n := by
  have hj : j < zs.length := by omega
  unfold Copied
  have h1 : (zs.take j).length = j := by simp; omega
  rw [List.set_append_right j (zs.getD j 0) (by omega), h1, Nat.sub_self, List.take_succ_eq_append_getElem hj]
  rw [show n - j = (n - (j + 1)) + 1 by omega, List.replicate_succ, List.set_cons_zero, List.append_assoc]
  simp [List.getD_eq_getElem?_getD, hj]
theorem copied_all (zs : List Int) (n : Nat) (hz : zs.length = n) : Copied zs n n = zs := by simp [Copied, ← hz]

theorem half_next (k0 j : Nat) (zs : List Int) (h : j < zs.length) : (half .i64 k0 j zs).set j (IntKind.wrap .i64 ((k0 + j : Nat) : Int)) = half .i64 k0 (j + 1) zs := by
  unfold half
  have h1 : (marks .i64 k0 j).length = j := marks_len _ _ _
  rw [List.set_append_right j _ (by omega), h1, Nat.sub_self, List.drop_eq_getElem_cons h, List.set_cons_zero]
  unfold marks
  rw [List.range_succ, List.map_append, List.append_assoc]
  rfl
theorem half_zero (k0 : Nat) (zs : List Int) : half .i64 k0 0 zs = zs := by simp [half, marks]
theorem half_all (k0 n : Nat) (zs : List Int) (h : zs.length = n) : half .i64 k0 n zs = marks .i64 k0 n := by simp [half, ← h]
theorem half_getD (k0 j : Nat) (zs : List Int) : (half .i64 k0 j zs).getD j 0 = zs.getD j 0 := by
  unfold half
  have h1 : (marks .i64 k0 j).length = j := marks_len _ _ _
  rw [List.getD_eq_getElem?_getD, List.getElem?_append_right (by omega), h1, Nat.sub_self, List.getElem?_drop, Nat.add_zero, List.getD_eq_getElem?_getD]
theorem wf_wrap (z : Int) : (Lit.int .i64 (IntKind.wrap .i64 z)).wf = true := WalkArith.wf_i64 (by rw [IntKind.wrap_i64]; omega)
theorem marks_wf (k0 n : Nat) : ∀ z ∈ marks .i64 k0 n, (Lit.int .i64 z).wf = true := by
  intro z hz
  simp only [marks, List.mem_map] at hz
  obtain ⟨i, _, rfl⟩ := hz
  exact wf_wrap _

/-- Cells of a row that is being marked. -/
def Marked (k0 j : Nat) (zs : List Int) (b off n : Nat) (w : World) : Prop :=
  ∀ i, i < n → w.cell? ⟨b, off + i, none⟩ = some (.int .i64 ((half .i64 k0 j zs).getD i 0)) ∧ w.frozen? ⟨b, off + i, none⟩ = false

theorem marked_next (k0 j b off n : Nat) (zs : List Int) (w : World) (v : Int) (h : Marked k0 j zs b off n w) (hj : j < n) (hz : zs.length = n) (hv : v = IntKind.wrap .i64 ((k0 + j : Nat) : Int)) : Marked k0 (j + 1) zs b off n (w.setCell ⟨b, off + j, none⟩ (.int .i64 v)) := by
  subst hv
  intro i hi
  have hl : (half .i64 k0 j zs).length = n := by rw [half_len _ _ _ _ (by omega), hz]
  refine ⟨?_, by rw [World.frozen?_setCell]; exact (h i hi).2⟩
  rw [← half_next k0 j zs (by omega), List.getD_eq_getElem?_getD, List.getElem?_set, hl]
  by_cases he : j = i
  · subst he
    rw [if_pos rfl, if_pos hi]
    exact World.cell?_setCell_same _ _ _ (h j hj).1
  · rw [if_neg he, World.cell?_setCell_other _ _ _ _ (by intro h; injection h with _ h _; omega), ← List.getD_eq_getElem?_getD]
    exact (h i hi).1

end Go.Proofs.YtpemjlmopnndbaaDoor.Nts
