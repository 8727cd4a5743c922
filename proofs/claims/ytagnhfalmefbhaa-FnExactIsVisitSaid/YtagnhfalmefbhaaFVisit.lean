/-
  A struct (Visit) that came in, alone and in slices, opened to the words for data of any depth.
  Conditions: none.
-/
import Derived.Test.YtagnhfalmefbhaaRows
import Derived.Test.YtagnhfalmefbhaaDatFrame
import Derived.Test.YtagnhfalmefbhaaGVisit
import Derived.Test.YtagnhfalmefbhaaFVersion
namespace Go.Proofs.Ytagnhfalmefbhaa.Gen
open Go Go.ChangeShapes Go.WideShapes Go.ChangeAt Go.RowKit Go.Joins Go.Deep Go.Proofs.Ytagnhfalmefbhaa.Mem
section
variable {H : Type} {enc : TypeId × Value → H} {w : World} {b0 : Nat} {r : Reach}
theorem fcells_Visit : Try.prog.cellsOf 45 = 4 := by kernel_rfl
set_option maxRecDepth 100000 in
set_option maxHeartbeats 1000000 in
theorem fopen_Visit {fuel : Nat} {cs : List Value} {x : DataW H × List MemPlace} (hl : cs.length = 4) (hf : DataW.trod enc Try.prog w 0 (fun _ => true) true fuel 45 cs = some x) :
    ∃ P : TVisit, ∀ j, j < 4 → ∃ u, cs[j]? = some u ∧ Lies 0 w.heap.size w (P.c j) u := by
  match cs, hl with
  | [c0, c1, c2, c3], _ =>
    obtain ⟨y0, y1, y2, y3, m, k0, k1, k2, k3⟩ := gtrod_struct4 Try.underlying45 hf
    have s0 : Try.prog.cellsOf 43 = 1 := by kernel_rfl
    have s1 : Try.prog.cellsOf 3 = 1 := by kernel_rfl
    have s2 : Try.prog.cellsOf 25 = 1 := by kernel_rfl
    simp only [s0, s1, s2, List.drop_zero, List.drop_succ_cons, List.take_succ_cons, List.take_zero] at k0 k1 k2 k3
    obtain ⟨z0, q0⟩ := fopen_VersionS k0
    obtain ⟨z1, e1, _, wf1⟩ := DataW.trod_int Try.underlying3 k1
    simp only [List.cons.injEq, and_true] at e1; subst e1
    obtain ⟨z2, e2, _, wf2⟩ := DataW.trod_int Try.underlying3 k2
    simp only [List.cons.injEq, and_true] at e2; subst e2
    obtain ⟨z3, q3⟩ := fopen_ints Try.underlying25 Try.underlying3 (by kernel_rfl) k3
    refine ⟨⟨z0, z1, z2, z3⟩, fun j hj => ?_⟩
    have hj' : j = 0 ∨ j = 1 ∨ j = 2 ∨ j = 3 := by omega
    rcases hj' with rfl | rfl | rfl | rfl
    · exact ⟨_, rfl, q0⟩
    · exact ⟨_, rfl, ⟨rfl, wf1⟩⟩
    · exact ⟨_, rfl, ⟨rfl, wf2⟩⟩
    · exact ⟨_, rfl, q3⟩
set_option maxRecDepth 100000 in
theorem farg_Visit {v : Value} {d : DataW H} {p : List MemPlace} (hv : Value.okWide Try.prog w r b0 45 v) (h : DataW.Trod enc Try.prog w 0 (fun _ => true) true 45 v d p) : ∃ (P : TVisit) (A0 : Option Addr) (c0 : Nat) (A3 : Option Addr) (c3 : Nat), v = (Value.agg #[.slice A0 P.f0.length c0, .int .i64 P.f1, .int .i64 P.f2, .slice A3 P.f3.length c3]) ∧ Lies 0 w.heap.size w (dVersion P.f0) (.slice A0 P.f0.length c0) ∧ Lies 0 w.heap.size w (ints P.f3) (.slice A3 P.f3.length c3) ∧ (Lit.int .i64 P.f1).wf = true ∧ (Lit.int .i64 P.f2).wf = true := by
  obtain ⟨cs, rfl, hsz⟩ := okWide_struct Try.underlying45 hv
  obtain ⟨fuel, hf⟩ := h
  obtain ⟨l, rfl⟩ : ∃ l : List Value, cs = l.toArray := ⟨cs.toList, by simp⟩
  have hl : l.length = 4 := by simpa using hsz.trans fcells_Visit
  simp only [Value.cells] at hf
  obtain ⟨P, hP⟩ := fopen_Visit hl hf
  match l, hl with
  | [b0, c1, c2, b3], _ =>
    obtain ⟨u0, g0, l0⟩ := hP 0 (by omega)
    obtain rfl : b0 = u0 := by simpa using g0
    replace l0 : Lies 0 w.heap.size w (dVersion P.f0) b0 := l0
    obtain ⟨A0, c0, rfl⟩ := lies_Version l0
    obtain ⟨u1, g1, l1⟩ := hP 1 (by omega)
    obtain rfl : c1 = u1 := by simpa using g1
    replace l1 : Lies 0 w.heap.size w (.int P.f1) c1 := l1
    obtain ⟨rfl, w1⟩ := lies_int l1
    obtain ⟨u2, g2, l2⟩ := hP 2 (by omega)
    obtain rfl : c2 = u2 := by simpa using g2
    replace l2 : Lies 0 w.heap.size w (.int P.f2) c2 := l2
    obtain ⟨rfl, w2⟩ := lies_int l2
    obtain ⟨u3, g3, l3⟩ := hP 3 (by omega)
    obtain rfl : b3 = u3 := by simpa using g3
    replace l3 : Lies 0 w.heap.size w (ints P.f3) b3 := l3
    obtain ⟨A3, c3, rfl⟩ := lies_ints l3
    exact ⟨P, A0, c0, A3, c3, rfl, l0, l3, w1, w2⟩
end
end Go.Proofs.Ytagnhfalmefbhaa.Gen
