/-
  A slice of parts that came in, opened to its parts and the rows of their bodies.
  Conditions: none.
-/
import Derived.Test.YtedjclnojocjkaaGreatDoorRows
import Derived.Test.YtedjclnojocjkaaGreatDoorPrt
import Derived.ProofKit
import Derived.OpenShut
import Derived.Lib.SmallJoins
import Derived.Deep.Slices
namespace Go.Proofs.YtedjclnojocjkaaGreatDoor.FramePts
open Go Go.ChangeShapes Go.WideShapes Go.ChangeAt Go.RowKit Go.Joins Go.Deep Go.Proofs.YtedjclnojocjkaaGreatDoor.Mem Go.Proofs.YtedjclnojocjkaaGreatDoor.Parts

section
variable {H : Type} {enc : TypeId × Value → H} {w : World} {b0 : Nat} {r : Reach}
set_option maxRecDepth 100000 in
set_option maxHeartbeats 1000000 in
theorem open_part {fuel : Nat} {cs : List Value} {x : DataW H × List MemPlace} (hl : cs.length = 7) (hf : DataW.trod enc Tryz.prog w 0 (fun _ => true) true fuel 86 cs = some x) :
    ∃ (P : Prt) (A : Option Addr) (c : Nat), cs = [.int .i64 P.d, .int .i64 P.k, .slice A P.zs.length c, .int .i64 P.h, .int .i64 P.p, .int .i64 P.q, .int .i64 P.u] ∧ P.Wf ∧ Lain 0 w.heap.size w P A c := by
  match cs, hl with
  | [c0, c1, c2, c3, c4, c5, c6], _ =>
    obtain ⟨v0, v1, v2, m, _, _, k0, k1, k2⟩ := trod_struct3 Tryz.underlying86 hf
    have s0 : Tryz.prog.cellsOf 3 = 1 := by kernel_rfl
    have s1 : Tryz.prog.cellsOf 25 = 1 := by kernel_rfl
    have s2 : Tryz.prog.cellsOf 46 = 3 := by kernel_rfl
    have s3 : Tryz.prog.cellsOf 48 = 5 := by kernel_rfl
    simp only [s0, s3, List.drop_zero, List.drop_succ_cons, List.take_succ_cons, List.take_zero] at k0 k1 k2
    obtain ⟨d, e0, _, wd⟩ := DataW.trod_int Tryz.underlying3 k0
    obtain ⟨u, e6, _, wu⟩ := DataW.trod_int Tryz.underlying3 k2
    obtain ⟨y0, y1, y2, m2, _, _, h0, h1, h2⟩ := trod_struct3 Tryz.underlying48 k1
    simp only [s0, s1, s2, List.drop_zero, List.drop_succ_cons, List.take_succ_cons, List.take_zero] at h0 h1 h2
    obtain ⟨k, e1, _, wk⟩ := DataW.trod_int Tryz.underlying3 h0
    obtain ⟨z0, z1, z2, m', _, _, g0, g1, g2⟩ := trod_struct3 Tryz.underlying46 h2
    simp only [s0, List.drop_zero, List.drop_succ_cons, List.take_succ_cons, List.take_zero] at g0 g1 g2
    obtain ⟨x, e3, _, wx⟩ := DataW.trod_int Tryz.underlying3 g0
    obtain ⟨y, e4, _, wy⟩ := DataW.trod_int Tryz.underlying3 g1
    obtain ⟨z, e5, _, wz⟩ := DataW.trod_int Tryz.underlying3 g2
    simp only [List.cons.injEq, and_true] at e0 e1 e3 e4 e5 e6
    subst e0 e1 e3 e4 e5 e6
    rcases open_ints Tryz.underlying25 Tryz.underlying3 s0 h1 with ⟨hc, _⟩ | ⟨a, len, cap, zs, hc, _, hl, hm, hz, _, hcell, hwz⟩
    · simp only [List.cons.injEq, and_true] at hc
      subst hc
      exact ⟨⟨d, k, [], x, y, z, u⟩, none, 0, rfl, ⟨wd, wk, wx, wy, wz, wu⟩, ⟨Row.nil _ _ _ _ _, Nat.le_refl _, Nat.zero_le _⟩⟩
    · simp only [List.cons.injEq, and_true] at hc
      subst hc
      have hr := Row.of_came (k := .i64) (w := w) (a := some a) (len := len) (cap := cap) (zs := zs) (Or.inr ⟨a, rfl, hl, hm, by simpa using hz, hcell, hwz⟩)
      have hzl : (zs.take len).length = len := hr.len
      refine ⟨⟨d, k, zs.take len, x, y, z, u⟩, some a, cap, ?_, ⟨wd, wk, wx, wy, wz, wu⟩, ⟨?_, ?_, hm⟩⟩
      · simp only [hzl]
      · simp only [hzl]; exact hr
      · simp only [hzl]; exact hl

set_option maxRecDepth 100000 in
theorem open_parts {v : Value} {d : DataW H} {p : List MemPlace} (hv : Value.okWide Tryz.prog w r b0 45 v) (h : DataW.Trod enc Tryz.prog w 0 (fun _ => true) true 45 v d p) :
    ∃ (l : List Prt) (a : Option Addr) (n c : Nat), v = .slice a n c ∧ PRow 0 w.heap.size w a n l ∧ (n : Int) ≤ 9223372036854775807 := by
  obtain ⟨a0, n0, c0, rfl⟩ := okWide_slice Tryz.underlying45 hv
  obtain ⟨fuel, hf⟩ := h
  rcases open_slice Tryz.underlying45 hf with ⟨hc, _⟩ | ⟨a, len, cap, m, n, D, Pl, hc, _, hl, hm, hmm, _, hi⟩
  · simp only [Value.cells, List.cons.injEq, and_true] at hc
    injection hc with h1 h2 h3
    subst h1 h2 h3
    exact ⟨[], none, 0, 0, rfl, PRow.nil _ _ _ _, by omega⟩
  · simp only [Value.cells, List.cons.injEq, and_true] at hc
    injection hc with h1 h2 h3
    subst h1 h2 h3
    have s4 : Tryz.prog.cellsOf 86 = 7 := by kernel_rfl
    simp only [if_true] at hmm
    subst hmm
    rw [s4] at hi
    have hi' : ∀ i, ∃ P : Prt, i < n0 → P.Wf ∧ ∃ A c, Lain 0 w.heap.size w P A c ∧ ∀ x v, [Value.int .i64 P.d, .int .i64 P.k, .slice A P.zs.length c, .int .i64 P.h, .int .i64 P.p, .int .i64 P.q, .int .i64 P.u][x]? = some v → w.cell? (a.add (i * 7 + x)) = some v := by
      intro i
      by_cases hin : i < n0
      · obtain ⟨cs', hcs, ht⟩ := hi i (by omega)
        obtain ⟨_, hcl, hat⟩ := World.cells?_some hcs
        obtain ⟨P, A, c, rfl, hw, hla⟩ := open_part hcl ht
        refine ⟨P, fun _ => ⟨hw, A, c, hla, fun x v hx => ?_⟩⟩
        have hx7 : x < 7 := by
          have := (List.getElem?_eq_some_iff.1 hx).1
          simpa using this
        rw [← add_add, hat x hx7]
        exact hx
      · exact ⟨noPrt, fun h => absurd h hin⟩
    refine ⟨(List.range n0).map fun i => Classical.choose (hi' i), some a, n0, _, rfl, ⟨by simp, ?_, fun hn => ?_⟩, by unfold maxLen at hm; omega⟩
    · intro P hP
      obtain ⟨i, hi2, rfl⟩ := List.mem_map.1 hP
      exact (Classical.choose_spec (hi' i) (List.mem_range.1 hi2)).1
    · obtain ⟨b, off, spot⟩ := a
      have hspot : spot = none := by
        obtain ⟨_, A, c, _, hx⟩ := Classical.choose_spec (hi' 0) hn
        have h0 := hx 0 _ rfl
        simpa [Addr.add] using World.cell?_spot h0
      subst hspot
      have hpt : ∀ i, i < n0 → pt ((List.range n0).map fun i => Classical.choose (hi' i)) i = Classical.choose (hi' i) := fun i hin => by
        simp [pt, List.getD_eq_getElem?_getD, hin]
      have hb : b < w.heap.size := by
        obtain ⟨_, A, c, _, hx⟩ := Classical.choose_spec (hi' 0) hn
        have h0 := hx 0 _ rfl
        rw [add_pl] at h0
        exact cell_lt h0
      refine ⟨b, off, rfl, Nat.zero_le _, hb, fun i hin => ?_⟩
      obtain ⟨_, A, c, hla, hx⟩ := Classical.choose_spec (hi' i) hin
      rw [hpt i hin]
      have key : ∀ x v, [Value.int .i64 (Classical.choose (hi' i)).d, .int .i64 (Classical.choose (hi' i)).k, .slice A (Classical.choose (hi' i)).zs.length c, .int .i64 (Classical.choose (hi' i)).h, .int .i64 (Classical.choose (hi' i)).p, .int .i64 (Classical.choose (hi' i)).q, .int .i64 (Classical.choose (hi' i)).u][x]? = some v → w.cell? ⟨b, off + i * 7 + x, none⟩ = some v := fun x v h => by
        have := hx x v h
        rw [add_pl] at this
        rw [Nat.add_assoc]; exact this
      exact ⟨A, c, ⟨key 0 _ rfl, key 1 _ rfl, key 2 _ rfl, key 3 _ rfl, key 4 _ rfl, key 5 _ rfl, key 6 _ rfl⟩, hla⟩
end
end Go.Proofs.YtedjclnojocjkaaGreatDoor.FramePts
