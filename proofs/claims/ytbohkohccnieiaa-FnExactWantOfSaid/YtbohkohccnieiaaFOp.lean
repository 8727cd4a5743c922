/-
  A struct (Op) that came in, alone and in slices, opened to the words for data of any depth.
  Conditions: none.
-/
import Derived.Test.YtbohkohccnieiaaRows
import Derived.Test.YtbohkohccnieiaaDatFrame
import Derived.Test.YtbohkohccnieiaaGOp
namespace Go.Proofs.Ytbohkohccnieiaa.Gen
open Go Go.ChangeShapes Go.WideShapes Go.ChangeAt Go.RowKit Go.Joins Go.Deep Go.Proofs.Ytbohkohccnieiaa.Mem
section
variable {H : Type} {enc : TypeId × Value → H} {w : World} {b0 : Nat} {r : Reach}
theorem fcells_Op : Try.prog.cellsOf 82 = 4 := by kernel_rfl
set_option maxRecDepth 100000 in
set_option maxHeartbeats 1000000 in
theorem fopen_Op {fuel : Nat} {cs : List Value} {x : DataW H × List MemPlace} (hl : cs.length = 4) (hf : DataW.trod enc Try.prog w 0 (fun _ => true) true fuel 82 cs = some x) :
    ∃ P : TOp, ∀ j, j < 4 → ∃ u, cs[j]? = some u ∧ Lies 0 w.heap.size w (P.c j) u := by
  match cs, hl with
  | [c0, c1, c2, c3], _ =>
    obtain ⟨y0, y1, y2, y3, m, k0, k1, k2, k3⟩ := gtrod_struct4 Try.underlying82 hf
    have s0 : Try.prog.cellsOf 3 = 1 := by kernel_rfl
    simp only [s0, List.drop_zero, List.drop_succ_cons, List.take_succ_cons, List.take_zero] at k0 k1 k2 k3
    obtain ⟨z0, e0, _, wf0⟩ := DataW.trod_int Try.underlying3 k0
    simp only [List.cons.injEq, and_true] at e0; subst e0
    obtain ⟨z1, e1, _, wf1⟩ := DataW.trod_int Try.underlying3 k1
    simp only [List.cons.injEq, and_true] at e1; subst e1
    obtain ⟨z2, e2, _, wf2⟩ := DataW.trod_int Try.underlying3 k2
    simp only [List.cons.injEq, and_true] at e2; subst e2
    obtain ⟨z3, e3, _, wf3⟩ := DataW.trod_int Try.underlying3 k3
    simp only [List.cons.injEq, and_true] at e3; subst e3
    refine ⟨⟨z0, z1, z2, z3⟩, fun j hj => ?_⟩
    have hj' : j = 0 ∨ j = 1 ∨ j = 2 ∨ j = 3 := by omega
    rcases hj' with rfl | rfl | rfl | rfl
    · exact ⟨_, rfl, ⟨rfl, wf0⟩⟩
    · exact ⟨_, rfl, ⟨rfl, wf1⟩⟩
    · exact ⟨_, rfl, ⟨rfl, wf2⟩⟩
    · exact ⟨_, rfl, ⟨rfl, wf3⟩⟩
set_option maxRecDepth 100000 in
theorem fopen_OpS {fuel : Nat} {v : Value} {x : DataW H × List MemPlace} (hf : DataW.trod enc Try.prog w 0 (fun _ => true) true fuel 49 [v] = some x) : ∃ l : List TOp, Lies 0 w.heap.size w (dOp l) v :=
  fopen_row (c := TOp.c) (nil := nOp) Try.underlying49 fcells_Op (by omega) (fun _ _ _ hl h => fopen_Op hl h) hf
set_option maxRecDepth 100000 in
theorem farg_OpS {v : Value} {d : DataW H} {p : List MemPlace} (hv : Value.okWide Try.prog w r b0 49 v) (h : DataW.Trod enc Try.prog w 0 (fun _ => true) true 49 v d p) : ∃ l : List TOp, Lies 0 w.heap.size w (dOp l) v := by
  obtain ⟨a0, n0, c0, rfl⟩ := okWide_slice Try.underlying49 hv
  obtain ⟨fuel, hf⟩ := h
  exact fopen_OpS hf
set_option maxRecDepth 100000 in
theorem farg_Op {v : Value} {d : DataW H} {p : List MemPlace} (hv : Value.okWide Try.prog w r b0 82 v) (h : DataW.Trod enc Try.prog w 0 (fun _ => true) true 82 v d p) : ∃ (P : TOp) , v = (Value.agg #[.int .i64 P.f0, .int .i64 P.f1, .int .i64 P.f2, .int .i64 P.f3]) ∧ (Lit.int .i64 P.f0).wf = true ∧ (Lit.int .i64 P.f1).wf = true ∧ (Lit.int .i64 P.f2).wf = true ∧ (Lit.int .i64 P.f3).wf = true := by
  obtain ⟨cs, rfl, hsz⟩ := okWide_struct Try.underlying82 hv
  obtain ⟨fuel, hf⟩ := h
  obtain ⟨l, rfl⟩ : ∃ l : List Value, cs = l.toArray := ⟨cs.toList, by simp⟩
  have hl : l.length = 4 := by simpa using hsz.trans fcells_Op
  simp only [Value.cells] at hf
  obtain ⟨P, hP⟩ := fopen_Op hl hf
  match l, hl with
  | [c0, c1, c2, c3], _ =>
    obtain ⟨u0, g0, l0⟩ := hP 0 (by omega)
    obtain rfl : c0 = u0 := by simpa using g0
    replace l0 : Lies 0 w.heap.size w (.int P.f0) c0 := l0
    obtain ⟨rfl, w0⟩ := lies_int l0
    obtain ⟨u1, g1, l1⟩ := hP 1 (by omega)
    obtain rfl : c1 = u1 := by simpa using g1
    replace l1 : Lies 0 w.heap.size w (.int P.f1) c1 := l1
    obtain ⟨rfl, w1⟩ := lies_int l1
    obtain ⟨u2, g2, l2⟩ := hP 2 (by omega)
    obtain rfl : c2 = u2 := by simpa using g2
    replace l2 : Lies 0 w.heap.size w (.int P.f2) c2 := l2
    obtain ⟨rfl, w2⟩ := lies_int l2
    obtain ⟨u3, g3, l3⟩ := hP 3 (by omega)
    obtain rfl : c3 = u3 := by simpa using g3
    replace l3 : Lies 0 w.heap.size w (.int P.f3) c3 := l3
    obtain ⟨rfl, w3⟩ := lies_int l3
    exact ⟨P, rfl, w0, w1, w2, w3⟩
end
end Go.Proofs.Ytbohkohccnieiaa.Gen
