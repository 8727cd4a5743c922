/-
  A struct (Resource) that came in, alone and in slices, opened to the words for data of any depth.
  Conditions: none.
-/
import Derived.Test.YtagnhfalmefbhaaRows
import Derived.Test.YtagnhfalmefbhaaDatFrame
import Derived.Test.YtagnhfalmefbhaaGResource
import Derived.Test.YtagnhfalmefbhaaFAddress
namespace Go.Proofs.Ytagnhfalmefbhaa.Gen
open Go Go.ChangeShapes Go.WideShapes Go.ChangeAt Go.RowKit Go.Joins Go.Deep Go.Proofs.Ytagnhfalmefbhaa.Mem
section
variable {H : Type} {enc : TypeId × Value → H} {w : World} {b0 : Nat} {r : Reach}
theorem fcells_Resource : Try.prog.cellsOf 52 = 5 := by kernel_rfl
set_option maxRecDepth 100000 in
set_option maxHeartbeats 1000000 in
theorem fopen_Resource {fuel : Nat} {cs : List Value} {x : DataW H × List MemPlace} (hl : cs.length = 5) (hf : DataW.trod enc Try.prog w 0 (fun _ => true) true fuel 52 cs = some x) :
    ∃ P : TResource, ∀ j, j < 5 → ∃ u, cs[j]? = some u ∧ Lies 0 w.heap.size w (P.c j) u := by
  match cs, hl with
  | [c0, c1, c2, c3, c4], _ =>
    obtain ⟨y0, y1, y2, m, k0, k1, k2⟩ := gtrod_struct3 Try.underlying52 hf
    have s0 : Try.prog.cellsOf 3 = 1 := by kernel_rfl
    have s1 : Try.prog.cellsOf 25 = 1 := by kernel_rfl
    have s2 : Try.prog.cellsOf 50 = 3 := by kernel_rfl
    simp only [s0, s1, s2, List.drop_zero, List.drop_succ_cons, List.take_succ_cons, List.take_zero] at k0 k1 k2
    obtain ⟨z0, e0, _, wf0⟩ := DataW.trod_int Try.underlying3 k0
    simp only [List.cons.injEq, and_true] at e0; subst e0
    obtain ⟨z1, q1⟩ := fopen_ints Try.underlying25 Try.underlying3 (by kernel_rfl) k1
    obtain ⟨z2, q2⟩ := fopen_Address rfl k2
    obtain ⟨u2_0, g2_0, l2_0⟩ := q2 0 (by omega)
    obtain rfl : c2 = u2_0 := by simpa using g2_0
    obtain ⟨u2_1, g2_1, l2_1⟩ := q2 1 (by omega)
    obtain rfl : c3 = u2_1 := by simpa using g2_1
    obtain ⟨u2_2, g2_2, l2_2⟩ := q2 2 (by omega)
    obtain rfl : c4 = u2_2 := by simpa using g2_2
    refine ⟨⟨z0, z1, z2⟩, fun j hj => ?_⟩
    have hj' : j = 0 ∨ j = 1 ∨ j = 2 ∨ j = 3 ∨ j = 4 := by omega
    rcases hj' with rfl | rfl | rfl | rfl | rfl
    · exact ⟨_, rfl, ⟨rfl, wf0⟩⟩
    · exact ⟨_, rfl, q1⟩
    · exact ⟨_, rfl, l2_0⟩
    · exact ⟨_, rfl, l2_1⟩
    · exact ⟨_, rfl, l2_2⟩
set_option maxRecDepth 100000 in
theorem farg_Resource {v : Value} {d : DataW H} {p : List MemPlace} (hv : Value.okWide Try.prog w r b0 52 v) (h : DataW.Trod enc Try.prog w 0 (fun _ => true) true 52 v d p) : ∃ (P : TResource) (A1 : Option Addr) (c1 : Nat), v = (Value.agg #[.int .i64 P.f0, .slice A1 P.f1.length c1, .int .i64 P.f2.f0, .int .i64 P.f2.f1, .int .i64 P.f2.f2]) ∧ Lies 0 w.heap.size w (ints P.f1) (.slice A1 P.f1.length c1) ∧ (Lit.int .i64 P.f0).wf = true ∧ (Lit.int .i64 P.f2.f0).wf = true ∧ (Lit.int .i64 P.f2.f1).wf = true ∧ (Lit.int .i64 P.f2.f2).wf = true := by
  obtain ⟨cs, rfl, hsz⟩ := okWide_struct Try.underlying52 hv
  obtain ⟨fuel, hf⟩ := h
  obtain ⟨l, rfl⟩ : ∃ l : List Value, cs = l.toArray := ⟨cs.toList, by simp⟩
  have hl : l.length = 5 := by simpa using hsz.trans fcells_Resource
  simp only [Value.cells] at hf
  obtain ⟨P, hP⟩ := fopen_Resource hl hf
  match l, hl with
  | [c0, b1, c2, c3, c4], _ =>
    obtain ⟨u0, g0, l0⟩ := hP 0 (by omega)
    obtain rfl : c0 = u0 := by simpa using g0
    replace l0 : Lies 0 w.heap.size w (.int P.f0) c0 := l0
    obtain ⟨rfl, w0⟩ := lies_int l0
    obtain ⟨u1, g1, l1⟩ := hP 1 (by omega)
    obtain rfl : b1 = u1 := by simpa using g1
    replace l1 : Lies 0 w.heap.size w (ints P.f1) b1 := l1
    obtain ⟨A1, c1, rfl⟩ := lies_ints l1
    obtain ⟨u2, g2, l2⟩ := hP 2 (by omega)
    obtain rfl : c2 = u2 := by simpa using g2
    replace l2 : Lies 0 w.heap.size w (.int P.f2.f0) c2 := l2
    obtain ⟨rfl, w2⟩ := lies_int l2
    obtain ⟨u3, g3, l3⟩ := hP 3 (by omega)
    obtain rfl : c3 = u3 := by simpa using g3
    replace l3 : Lies 0 w.heap.size w (.int P.f2.f1) c3 := l3
    obtain ⟨rfl, w3⟩ := lies_int l3
    obtain ⟨u4, g4, l4⟩ := hP 4 (by omega)
    obtain rfl : c4 = u4 := by simpa using g4
    replace l4 : Lies 0 w.heap.size w (.int P.f2.f2) c4 := l4
    obtain ⟨rfl, w4⟩ := lies_int l4
    exact ⟨P, A1, c1, rfl, l1, w0, w2, w3, w4⟩
end
end Go.Proofs.Ytagnhfalmefbhaa.Gen
