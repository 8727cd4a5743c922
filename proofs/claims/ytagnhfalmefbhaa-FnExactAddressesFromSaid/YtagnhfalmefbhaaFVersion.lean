/-
  A struct (Version) that came in, alone and in slices, opened to the words for data of any depth.
  Conditions: none.
-/
import Derived.Test.YtagnhfalmefbhaaRows
import Derived.Test.YtagnhfalmefbhaaDatFrame
import Derived.Test.YtagnhfalmefbhaaGVersion
import Derived.Test.YtagnhfalmefbhaaFAddress
import Derived.Test.YtagnhfalmefbhaaFResource
namespace Go.Proofs.Ytagnhfalmefbhaa.Gen
open Go Go.ChangeShapes Go.WideShapes Go.ChangeAt Go.RowKit Go.Joins Go.Deep Go.Proofs.Ytagnhfalmefbhaa.Mem
section
variable {H : Type} {enc : TypeId × Value → H} {w : World} {b0 : Nat} {r : Reach}
theorem fcells_Version : Try.prog.cellsOf 121 = 9 := by kernel_rfl
set_option maxRecDepth 100000 in
set_option maxHeartbeats 1000000 in
theorem fopen_Version {fuel : Nat} {cs : List Value} {x : DataW H × List MemPlace} (hl : cs.length = 9) (hf : DataW.trod enc Try.prog w 0 (fun _ => true) true fuel 121 cs = some x) :
    ∃ P : TVersion, ∀ j, j < 9 → ∃ u, cs[j]? = some u ∧ Lies 0 w.heap.size w (P.c j) u := by
  match cs, hl with
  | [c0, c1, c2, c3, c4, c5, c6, c7, c8], _ =>
    obtain ⟨y0, y1, y2, m, k0, k1, k2⟩ := gtrod_struct3 Try.underlying121 hf
    have s0 : Try.prog.cellsOf 50 = 3 := by kernel_rfl
    have s1 : Try.prog.cellsOf 3 = 1 := by kernel_rfl
    have s2 : Try.prog.cellsOf 52 = 5 := by kernel_rfl
    simp only [s0, s1, s2, List.drop_zero, List.drop_succ_cons, List.take_succ_cons, List.take_zero] at k0 k1 k2
    obtain ⟨z0, q0⟩ := fopen_Address rfl k0
    obtain ⟨u0_0, g0_0, l0_0⟩ := q0 0 (by omega)
    obtain rfl : c0 = u0_0 := by simpa using g0_0
    obtain ⟨u0_1, g0_1, l0_1⟩ := q0 1 (by omega)
    obtain rfl : c1 = u0_1 := by simpa using g0_1
    obtain ⟨u0_2, g0_2, l0_2⟩ := q0 2 (by omega)
    obtain rfl : c2 = u0_2 := by simpa using g0_2
    obtain ⟨z1, e1, _, wf1⟩ := DataW.trod_int Try.underlying3 k1
    simp only [List.cons.injEq, and_true] at e1; subst e1
    obtain ⟨z2, q2⟩ := fopen_Resource rfl k2
    obtain ⟨u2_0, g2_0, l2_0⟩ := q2 0 (by omega)
    obtain rfl : c4 = u2_0 := by simpa using g2_0
    obtain ⟨u2_1, g2_1, l2_1⟩ := q2 1 (by omega)
    obtain rfl : c5 = u2_1 := by simpa using g2_1
    obtain ⟨u2_2, g2_2, l2_2⟩ := q2 2 (by omega)
    obtain rfl : c6 = u2_2 := by simpa using g2_2
    obtain ⟨u2_3, g2_3, l2_3⟩ := q2 3 (by omega)
    obtain rfl : c7 = u2_3 := by simpa using g2_3
    obtain ⟨u2_4, g2_4, l2_4⟩ := q2 4 (by omega)
    obtain rfl : c8 = u2_4 := by simpa using g2_4
    refine ⟨⟨z0, z1, z2⟩, fun j hj => ?_⟩
    have hj' : j = 0 ∨ j = 1 ∨ j = 2 ∨ j = 3 ∨ j = 4 ∨ j = 5 ∨ j = 6 ∨ j = 7 ∨ j = 8 := by omega
    rcases hj' with rfl | rfl | rfl | rfl | rfl | rfl | rfl | rfl | rfl
    · exact ⟨_, rfl, l0_0⟩
    · exact ⟨_, rfl, l0_1⟩
    · exact ⟨_, rfl, l0_2⟩
    · exact ⟨_, rfl, ⟨rfl, wf1⟩⟩
    · exact ⟨_, rfl, l2_0⟩
    · exact ⟨_, rfl, l2_1⟩
    · exact ⟨_, rfl, l2_2⟩
    · exact ⟨_, rfl, l2_3⟩
    · exact ⟨_, rfl, l2_4⟩
set_option maxRecDepth 100000 in
theorem fopen_VersionS {fuel : Nat} {v : Value} {x : DataW H × List MemPlace} (hf : DataW.trod enc Try.prog w 0 (fun _ => true) true fuel 43 [v] = some x) : ∃ l : List TVersion, Lies 0 w.heap.size w (dVersion l) v :=
  fopen_row (c := TVersion.c) (nil := nVersion) Try.underlying43 fcells_Version (by omega) (fun _ _ _ hl h => fopen_Version hl h) hf
set_option maxRecDepth 100000 in
theorem farg_VersionS {v : Value} {d : DataW H} {p : List MemPlace} (hv : Value.okWide Try.prog w r b0 43 v) (h : DataW.Trod enc Try.prog w 0 (fun _ => true) true 43 v d p) : ∃ l : List TVersion, Lies 0 w.heap.size w (dVersion l) v := by
  obtain ⟨a0, n0, c0, rfl⟩ := okWide_slice Try.underlying43 hv
  obtain ⟨fuel, hf⟩ := h
  exact fopen_VersionS hf
set_option maxRecDepth 100000 in
theorem farg_Version {v : Value} {d : DataW H} {p : List MemPlace} (hv : Value.okWide Try.prog w r b0 121 v) (h : DataW.Trod enc Try.prog w 0 (fun _ => true) true 121 v d p) : ∃ (P : TVersion) (A5 : Option Addr) (c5 : Nat), v = (Value.agg #[.int .i64 P.f0.f0, .int .i64 P.f0.f1, .int .i64 P.f0.f2, .int .i64 P.f1, .int .i64 P.f2.f0, .slice A5 P.f2.f1.length c5, .int .i64 P.f2.f2.f0, .int .i64 P.f2.f2.f1, .int .i64 P.f2.f2.f2]) ∧ Lies 0 w.heap.size w (ints P.f2.f1) (.slice A5 P.f2.f1.length c5) ∧ (Lit.int .i64 P.f0.f0).wf = true ∧ (Lit.int .i64 P.f0.f1).wf = true ∧ (Lit.int .i64 P.f0.f2).wf = true ∧ (Lit.int .i64 P.f1).wf = true ∧ (Lit.int .i64 P.f2.f0).wf = true ∧ (Lit.int .i64 P.f2.f2.f0).wf = true ∧ (Lit.int .i64 P.f2.f2.f1).wf = true ∧ (Lit.int .i64 P.f2.f2.f2).wf = true := by
  obtain ⟨cs, rfl, hsz⟩ := okWide_struct Try.underlying121 hv
  obtain ⟨fuel, hf⟩ := h
  obtain ⟨l, rfl⟩ : ∃ l : List Value, cs = l.toArray := ⟨cs.toList, by simp⟩
  have hl : l.length = 9 := by simpa using hsz.trans fcells_Version
  simp only [Value.cells] at hf
  obtain ⟨P, hP⟩ := fopen_Version hl hf
  match l, hl with
  | [c0, c1, c2, c3, c4, b5, c6, c7, c8], _ =>
    obtain ⟨u0, g0, l0⟩ := hP 0 (by omega)
    obtain rfl : c0 = u0 := by simpa using g0
    replace l0 : Lies 0 w.heap.size w (.int P.f0.f0) c0 := l0
    obtain ⟨rfl, w0⟩ := lies_int l0
    obtain ⟨u1, g1, l1⟩ := hP 1 (by omega)
    obtain rfl : c1 = u1 := by simpa using g1
    replace l1 : Lies 0 w.heap.size w (.int P.f0.f1) c1 := l1
    obtain ⟨rfl, w1⟩ := lies_int l1
    obtain ⟨u2, g2, l2⟩ := hP 2 (by omega)
    obtain rfl : c2 = u2 := by simpa using g2
    replace l2 : Lies 0 w.heap.size w (.int P.f0.f2) c2 := l2
    obtain ⟨rfl, w2⟩ := lies_int l2
    obtain ⟨u3, g3, l3⟩ := hP 3 (by omega)
    obtain rfl : c3 = u3 := by simpa using g3
    replace l3 : Lies 0 w.heap.size w (.int P.f1) c3 := l3
    obtain ⟨rfl, w3⟩ := lies_int l3
    obtain ⟨u4, g4, l4⟩ := hP 4 (by omega)
    obtain rfl : c4 = u4 := by simpa using g4
    replace l4 : Lies 0 w.heap.size w (.int P.f2.f0) c4 := l4
    obtain ⟨rfl, w4⟩ := lies_int l4
    obtain ⟨u5, g5, l5⟩ := hP 5 (by omega)
    obtain rfl : b5 = u5 := by simpa using g5
    replace l5 : Lies 0 w.heap.size w (ints P.f2.f1) b5 := l5
    obtain ⟨A5, c5, rfl⟩ := lies_ints l5
    obtain ⟨u6, g6, l6⟩ := hP 6 (by omega)
    obtain rfl : c6 = u6 := by simpa using g6
    replace l6 : Lies 0 w.heap.size w (.int P.f2.f2.f0) c6 := l6
    obtain ⟨rfl, w6⟩ := lies_int l6
    obtain ⟨u7, g7, l7⟩ := hP 7 (by omega)
    obtain rfl : c7 = u7 := by simpa using g7
    replace l7 : Lies 0 w.heap.size w (.int P.f2.f2.f1) c7 := l7
    obtain ⟨rfl, w7⟩ := lies_int l7
    obtain ⟨u8, g8, l8⟩ := hP 8 (by omega)
    obtain rfl : c8 = u8 := by simpa using g8
    replace l8 : Lies 0 w.heap.size w (.int P.f2.f2.f2) c8 := l8
    obtain ⟨rfl, w8⟩ := lies_int l8
    exact ⟨P, A5, c5, rfl, l5, w0, w1, w2, w3, w4, w6, w7, w8⟩
end
end Go.Proofs.Ytagnhfalmefbhaa.Gen
