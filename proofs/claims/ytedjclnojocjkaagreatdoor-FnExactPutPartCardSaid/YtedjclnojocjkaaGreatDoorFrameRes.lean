/-
  A resource that came in, opened to its numbers and the row of its body.
  Conditions: none.
-/
import Derived.Test.YtedjclnojocjkaaGreatDoorRows
import Derived.Test.YtedjclnojocjkaaGreatDoorMem
import Derived.ProofKit
import Derived.OpenShut
import Derived.Lib.SmallJoins
namespace Go.Proofs.YtedjclnojocjkaaGreatDoor.FrameRes
open Go Go.ChangeShapes Go.WideShapes Go.ChangeAt Go.RowKit Go.Joins Go.Deep Go.Proofs.YtedjclnojocjkaaGreatDoor.Mem

theorem array5 {α : Type} {cs : Array α} (h : cs.size = 5) : ∃ c0 c1 c2 c3 c4, cs = #[c0, c1, c2, c3, c4] := by
  obtain ⟨l⟩ := cs
  match l, h with
  | [c0, c1, c2, c3, c4], _ => exact ⟨c0, c1, c2, c3, c4, rfl⟩

section
variable {H : Type} {enc : TypeId × Value → H} {w : World} {b0 : Nat} {r : Reach}
set_option maxRecDepth 100000 in
theorem open_res {v : Value} {d : DataW H} {p : List MemPlace} (hv : Value.okWide Tryz.prog w r b0 48 v) (h : DataW.Trod enc Tryz.prog w 0 (fun _ => true) true 48 v d p) :
    ∃ (k : Int) (a : Option Addr) (n c : Nat) (zs : List Int) (x y z : Int), v = (Value.agg #[Value.int IntKind.i64 (k), Value.slice (a) (n) (c), Value.int IntKind.i64 (x), Value.int IntKind.i64 (y), Value.int IntKind.i64 (z)]) ∧ Row .i64 0 w.heap.size w a n zs ∧ (n : Int) ≤ 9223372036854775807 ∧ (Lit.int .i64 k).wf = true ∧ (Lit.int .i64 x).wf = true ∧ (Lit.int .i64 y).wf = true ∧ (Lit.int .i64 z).wf = true := by
  obtain ⟨cs, rfl, hsz⟩ := okWide_struct Tryz.underlying48 hv
  obtain ⟨c0, c1, c2, c3, c4, rfl⟩ := array5 (hsz.trans (by kernel_rfl))
  obtain ⟨fuel, hf⟩ := h
  obtain ⟨y0, y1, y2, m, _, _, h0, h1, h2⟩ := trod_struct3 Tryz.underlying48 hf
  have s0 : Tryz.prog.cellsOf 3 = 1 := by kernel_rfl
  have s1 : Tryz.prog.cellsOf 25 = 1 := by kernel_rfl
  have s2 : Tryz.prog.cellsOf 46 = 3 := by kernel_rfl
  simp only [Value.cells, s0, s1, s2, List.drop_zero, List.drop_succ_cons, List.take_succ_cons, List.take_zero] at h0 h1 h2
  obtain ⟨k, e0, _, wk⟩ := DataW.trod_int Tryz.underlying3 h0
  obtain ⟨z0, z1, z2, m', _, _, g0, g1, g2⟩ := trod_struct3 Tryz.underlying46 h2
  simp only [s0, List.drop_zero, List.drop_succ_cons, List.take_succ_cons, List.take_zero] at g0 g1 g2
  obtain ⟨x, e2, _, wx⟩ := DataW.trod_int Tryz.underlying3 g0
  obtain ⟨y, e3, _, wy⟩ := DataW.trod_int Tryz.underlying3 g1
  obtain ⟨z, e4, _, wz⟩ := DataW.trod_int Tryz.underlying3 g2
  simp only [List.cons.injEq, and_true] at e0 e2 e3 e4
  subst e0 e2 e3 e4
  rcases open_ints Tryz.underlying25 Tryz.underlying3 s0 h1 with ⟨hc, _⟩ | ⟨a, len, cap, zs, hc, _, hl, hm, hz, _, hcell, hwz⟩
  · simp only [List.cons.injEq, and_true] at hc
    subst hc
    exact ⟨k, none, 0, 0, [], x, y, z, rfl, Row.nil _ _ _ _ _, by omega, wk, wx, wy, wz⟩
  · simp only [List.cons.injEq, and_true] at hc
    subst hc
    have hr := Row.of_came (k := .i64) (w := w) (a := some a) (len := len) (cap := cap) (zs := zs) (Or.inr ⟨a, rfl, hl, hm, by simpa using hz, hcell, hwz⟩)
    unfold maxLen at hm
    exact ⟨k, some a, len, cap, zs.take len, x, y, z, rfl, hr, by omega, wk, wx, wy, wz⟩
end
end Go.Proofs.YtedjclnojocjkaaGreatDoor.FrameRes
