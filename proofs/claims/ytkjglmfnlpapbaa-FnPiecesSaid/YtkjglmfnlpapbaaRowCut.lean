/-
  A piece of a row of integers: the slice expression with both bounds, and what the row holds then.
  Conditions: the bounds lie in order within the row.
-/
import Derived.Test.YtkjglmfnlpapbaaInts
namespace Go.Proofs.Ytkjglmfnlpapbaa.Nts
open Go Go.RowKit Go.Proofs.Ytkjglmfnlpapbaa.Mem

set_option maxRecDepth 100000 in
theorem cut_mid (w : World) (a : Option Addr) (n c : Nat) (x y : Int) (f h : Nat) (hx : x = f) (hy : y = h) (h1 : f ≤ h) (h2 : h ≤ c) : (Instr.slice 24 (.slice a n c) (some (.int .i64 x)) (some (.int .i64 y)) none).run Try.prog w = .ok (.slice (if c = f then a else a.map (·.add f)) (h - f) (c - f)) w := by
  subst hx hy
  obtain ⟨i0, hi0, hz0, hz1, hz2⟩ := info_parts info
  simp [Instr.slice, run_underlying Try.underlying24, Instr.sliceBounds, Instr.sliceBound, sizeOf, typeInfo, hi0, go_sem, hz1]
  rw [if_pos h2, if_pos h1]
theorem Row.mid {k : IntKind} {lo hi n c f h : Nat} {w : World} {a : Option Addr} {zs : List Int} (hr : Row k lo hi w a n zs) (h1 : f ≤ h) (h2 : h ≤ n) (h3 : n ≤ c) : Row k lo hi w (if c = f then a else a.map (·.add f)) (h - f) ((zs.take h).drop f) := by
  have hl := hr.len
  refine ⟨by simp; omega, fun z hz => hr.wf z (List.mem_of_mem_take (List.mem_of_mem_drop hz)), fun hp => ?_⟩
  obtain ⟨b, off, rfl, e2, e3, e4⟩ := hr.here (by omega)
  rw [if_neg (by omega)]
  refine ⟨b, off + f, by show some ((⟨b, off, none⟩ : Addr).add f) = _; rw [add_pl], e2, e3, fun j hj => ?_⟩
  rw [show off + f + j = off + (f + j) by omega, e4 (f + j) (by omega)]
  have e : ((zs.take h).drop f).getD j 0 = zs.getD (f + j) 0 := by
    simp only [List.getD_eq_getElem?_getD, List.getElem?_drop]
    rw [List.getElem?_take_of_lt (by omega)]
  rw [e]
end Go.Proofs.Ytkjglmfnlpapbaa.Nts
