/-
  A struct (Address) that came in, alone and in slices, opened to the words for data of any depth.
  Conditions: none.
-/
import Derived.Test.YtpemjlmopnndbaaDoorRows
import Derived.Test.YtpemjlmopnndbaaDoorDatFrame
import Derived.Test.YtpemjlmopnndbaaDoorGAddress
namespace Go.Proofs.YtpemjlmopnndbaaDoor.Gen
open Go Go.ChangeShapes Go.WideShapes Go.ChangeAt Go.RowKit Go.Joins Go.Deep Go.Proofs.YtpemjlmopnndbaaDoor.Mem
section
variable {H : Type} {enc : TypeId × Value → H} {w : World} {b0 : Nat} {r : Reach}
theorem fcells_Address : Tryd.prog.cellsOf 23 = 3 := by kernel_rfl
set_option maxRecDepth 100000 in
set_option maxHeartbeats 1000000 in
theorem fopen_Address {fuel : Nat} {cs : List Value} {x : DataW H × List MemPlace} (hl : cs.length = 3) (hf : DataW.trod enc Tryd.prog w 0 (fun _ => true) true fuel 23 cs = some x) :
    ∃ P : TAddress, ∀ j, j < 3 → ∃ u, cs[j]? = some u ∧ Lies 0 w.heap.size w (P.c j) u := by
  match cs, hl with
  | [c0, c1, c2], _ =>
    obtain ⟨y0, y1, y2, m, k0, k1, k2⟩ := gtrod_struct3 Tryd.underlying23 hf
    have s0 : Tryd.prog.cellsOf 3 = 1 := by kernel_rfl
    simp only [s0, List.drop_zero, List.drop_succ_cons, List.take_succ_cons, List.take_zero] at k0 k1 k2
    obtain ⟨z0, e0, _, wf0⟩ := DataW.trod_int Tryd.underlying3 k0
    simp only [List.cons.injEq, and_true] at e0; subst e0
    obtain ⟨z1, e1, _, wf1⟩ := DataW.trod_int Tryd.underlying3 k1
    simp only [List.cons.injEq, and_true] at e1; subst e1
    obtain ⟨z2, e2, _, wf2⟩ := DataW.trod_int Tryd.underlying3 k2
    simp only [List.cons.injEq, and_true] at e2; subst e2
    refine ⟨⟨z0, z1, z2⟩, fun j hj => ?_⟩
    have hj' : j = 0 ∨ j = 1 ∨ j = 2 := by omega
    rcases hj' with rfl | rfl | rfl
    · exact ⟨_, rfl, ⟨rfl, wf0⟩⟩
    · exact ⟨_, rfl, ⟨rfl, wf1⟩⟩
    · exact ⟨_, rfl, ⟨rfl, wf2⟩⟩
set_option maxRecDepth 100000 in
theorem farg_Address {v : Value} {d : DataW H} {p : List MemPlace} (hv : Value.okWide Tryd.prog w r b0 23 v) (h : DataW.Trod enc Tryd.prog w 0 (fun _ => true) true 23 v d p) : ∃ (P : TAddress) , v = (Value.agg #[.int .i64 P.f0, .int .i64 P.f1, .int .i64 P.f2]) ∧ (Lit.int .i64 P.f0).wf = true ∧ (Lit.int .i64 P.f1).wf = true ∧ (Lit.int .i64 P.f2).wf = true := by
  obtain ⟨cs, rfl, hsz⟩ := okWide_struct Tryd.underlying23 hv
  obtain ⟨fuel, hf⟩ := h
  obtain ⟨l, rfl⟩ : ∃ l : List Value, cs = l.toArray := ⟨cs.toList, by simp⟩
  have hl : l.length = 3 := by simpa using hsz.trans fcells_Address
  simp only [Value.cells] at hf
  obtain ⟨P, hP⟩ := fopen_Address hl hf
  match l, hl with
  | [c0, c1, c2], _ =>
    obtain ⟨u0, g0, l0⟩ := hP 0 (by omega)
    obtain rfl : c0 = u0 := by simpa using g0
    replace l0 : Lies 0 w.heap.size w (.int P.f0) c0 := l0
    obtain ⟨rfl, w0⟩ := lies_int l0
    obtain ⟨u1, g1, l1⟩ := hP 1 (by omega)
    obtain rfl : c1 = u1 := by simpa using g1
    replace l1 : Lies 0 w.heap.size w (.int P.f1) c1 := l1
    obtain ⟨rfl, w1⟩ := lies_int l1
    obtain ⟨u2, g2, l2⟩ := hP 2 (by omega)
    obtain rfl : c2 = u2 := by simpa using g2
    replace l2 : Lies 0 w.heap.size w (.int P.f2) c2 := l2
    obtain ⟨rfl, w2⟩ := lies_int l2
    exact ⟨P, rfl, w0, w1, w2⟩
end
end Go.Proofs.YtpemjlmopnndbaaDoor.Gen
