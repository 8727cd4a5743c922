/-
  A slice of pieces that came in, opened to its pieces and the rows of their new numbers.
  Conditions: none.
-/
import Derived.Test.YtkjglmfnlpapbaaRows
import Derived.Test.YtkjglmfnlpapbaaPc
import Derived.ProofKit
import Derived.OpenShut
import Derived.Lib.SmallJoins
import Derived.Deep.Slices
namespace Go.Proofs.Ytkjglmfnlpapbaa.FramePcs
open Go Go.ChangeShapes Go.WideShapes Go.ChangeAt Go.RowKit Go.Joins Go.Deep Go.Proofs.Ytkjglmfnlpapbaa.Mem Go.Proofs.Ytkjglmfnlpapbaa.Pieces

section
variable {H : Type} {enc : TypeId × Value → H} {w : World} {b0 : Nat} {r : Reach}
set_option maxRecDepth 100000 in
set_option maxHeartbeats 1000000 in
theorem open_piece {fuel : Nat} {cs : List Value} {x : DataW H × List MemPlace} (hl : cs.length = 3) (hf : DataW.trod enc Try.prog w 0 (fun _ => true) true fuel 57 cs = some x) :
    ∃ (P : Pc) (A : Option Addr) (c : Nat), cs = [.int .i64 P.f, .int .i64 P.m, .slice A P.zs.length c] ∧ P.Wf ∧ Lain 0 w.heap.size w P A c := by
  match cs, hl with
  | [c0, c1, c2], _ =>
    obtain ⟨v0, v1, v2, m, _, _, k0, k1, k2⟩ := trod_struct3 Try.underlying57 hf
    have s0 : Try.prog.cellsOf 3 = 1 := by kernel_rfl
    have s1 : Try.prog.cellsOf 24 = 1 := by kernel_rfl
    simp only [s0, s1, List.drop_zero, List.drop_succ_cons, List.take_succ_cons, List.take_zero] at k0 k1 k2
    obtain ⟨f, e0, _, wf⟩ := DataW.trod_int Try.underlying3 k0
    obtain ⟨g, e1, _, wg⟩ := DataW.trod_int Try.underlying3 k1
    simp only [List.cons.injEq, and_true] at e0 e1
    subst e0 e1
    rcases open_ints Try.underlying24 Try.underlying3 s0 k2 with ⟨hc, _⟩ | ⟨a, len, cap, zs, hc, _, hl, hm, hz, _, hcell, hwz⟩
    · simp only [List.cons.injEq, and_true] at hc
      subst hc
      exact ⟨⟨f, g, []⟩, none, 0, rfl, ⟨wf, wg⟩, ⟨Row.nil _ _ _ _ _, Nat.le_refl _, Nat.zero_le _⟩⟩
    · simp only [List.cons.injEq, and_true] at hc
      subst hc
      have hr := Row.of_came (k := .i64) (w := w) (a := some a) (len := len) (cap := cap) (zs := zs) (Or.inr ⟨a, rfl, hl, hm, by simpa using hz, hcell, hwz⟩)
      have hzl : (zs.take len).length = len := hr.len
      refine ⟨⟨f, g, zs.take len⟩, some a, cap, ?_, ⟨wf, wg⟩, ⟨?_, ?_, hm⟩⟩
      · simp only [hzl]
      · simp only [hzl]; exact hr
      · simp only [hzl]; exact hl

set_option maxRecDepth 100000 in
theorem open_pieces {v : Value} {d : DataW H} {p : List MemPlace} (hv : Value.okWide Try.prog w r b0 41 v) (h : DataW.Trod enc Try.prog w 0 (fun _ => true) true 41 v d p) :
    ∃ (l : List Pc) (a : Option Addr) (n c : Nat), v = .slice a n c ∧ CRow 0 w.heap.size w a n l ∧ (n : Int) ≤ 9223372036854775807 := by
  obtain ⟨a0, n0, c0, rfl⟩ := okWide_slice Try.underlying41 hv
  obtain ⟨fuel, hf⟩ := h
  rcases open_slice Try.underlying41 hf with ⟨hc, _⟩ | ⟨a, len, cap, m, n, D, Pl, hc, _, hl, hm, hmm, _, hi⟩
  · simp only [Value.cells, List.cons.injEq, and_true] at hc
    injection hc with h1 h2 h3
    subst h1 h2 h3
    exact ⟨[], none, 0, 0, rfl, CRow.nil _ _ _ _, by omega⟩
  · simp only [Value.cells, List.cons.injEq, and_true] at hc
    injection hc with h1 h2 h3
    subst h1 h2 h3
    have s4 : Try.prog.cellsOf 57 = 3 := by kernel_rfl
    simp only [if_true] at hmm
    subst hmm
    rw [s4] at hi
    have hi' : ∀ i, ∃ P : Pc, i < n0 → P.Wf ∧ ∃ A c, Lain 0 w.heap.size w P A c ∧ ∀ x v, [Value.int .i64 P.f, .int .i64 P.m, .slice A P.zs.length c][x]? = some v → w.cell? (a.add (i * 3 + x)) = some v := by
      intro i
      by_cases hin : i < n0
      · obtain ⟨cs', hcs, ht⟩ := hi i (by omega)
        obtain ⟨_, hcl, hat⟩ := World.cells?_some hcs
        obtain ⟨P, A, c, rfl, hw, hla⟩ := open_piece hcl ht
        refine ⟨P, fun _ => ⟨hw, A, c, hla, fun x v hx => ?_⟩⟩
        have hx7 : x < 3 := by
          have := (List.getElem?_eq_some_iff.1 hx).1
          simpa using this
        rw [← add_add, hat x hx7]
        exact hx
      · exact ⟨noPc, fun h => absurd h hin⟩
    refine ⟨(List.range n0).map fun i => Classical.choose (hi' i), some a, n0, _, rfl, ⟨by simp, ?_, fun hn => ?_⟩, by unfold maxLen at hm; omega⟩
    · intro P hP
      obtain ⟨i, hi2, rfl⟩ := List.mem_map.1 hP
      exact (Classical.choose_spec (hi' i) (List.mem_range.1 hi2)).1
    · obtain ⟨b, off, spot⟩ := a
      have hspot : spot = none := by
        obtain ⟨_, A, c, _, hx⟩ := Classical.choose_spec (hi' 0) hn
        have h0 := hx 0 _ rfl
        simpa [Addr.add] using World.cell?_spot h0
      subst hspot
      have hpt : ∀ i, i < n0 → pc ((List.range n0).map fun i => Classical.choose (hi' i)) i = Classical.choose (hi' i) := fun i hin => by
        simp [pc, List.getD_eq_getElem?_getD, hin]
      have hb : b < w.heap.size := by
        obtain ⟨_, A, c, _, hx⟩ := Classical.choose_spec (hi' 0) hn
        have h0 := hx 0 _ rfl
        rw [add_pl] at h0
        exact cell_lt h0
      refine ⟨b, off, rfl, Nat.zero_le _, hb, fun i hin => ?_⟩
      obtain ⟨_, A, c, hla, hx⟩ := Classical.choose_spec (hi' i) hin
      rw [hpt i hin]
      have key : ∀ x v, [Value.int .i64 (Classical.choose (hi' i)).f, .int .i64 (Classical.choose (hi' i)).m, .slice A (Classical.choose (hi' i)).zs.length c][x]? = some v → w.cell? ⟨b, off + i * 3 + x, none⟩ = some v := fun x v h => by
        have := hx x v h
        rw [add_pl] at this
        rw [Nat.add_assoc]; exact this
      exact ⟨A, c, ⟨key 0 _ rfl, key 1 _ rfl, key 2 _ rfl⟩, hla⟩
end
end Go.Proofs.Ytkjglmfnlpapbaa.FramePcs
