/-
  A piece of a row of integers: the slice expression with both bounds, and what the row holds then.
  Conditions: the bounds lie in order within the row.
-/
import Derived.Test.YtldpgkbemgpacaaInts
namespace Go.Proofs.Ytldpgkbemgpacaa.Nts
open Go Go.RowKit Go.Proofs.Ytldpgkbemgpacaa.Mem

set_option maxRecDepth 100000 in
theorem cut_mid (w : World) (a : Option Addr) (n c : Nat) (x y : Int) (f h : Nat) (hx : x = f) (hy : y = h) (h1 : f ≤ h) (h2 : h ≤ c) : (Instr.slice 29 (.slice a n c) (some (.int .i64 x)) (some (.int .i64 y)) none).run Try.prog w = .ok (.slice (if c = f then a else a.map (·.add f)) (h - f) (c - f)) w := by
  subst hx hy
  obtain ⟨i0, hi0, hz0, hz1, hz2⟩ := info_parts info
  simp [Instr.slice, run_underlying Try.underlying29, Instr.sliceBounds, Instr.sliceBound, sizeOf, typeInfo, hi0, go_sem, hz1]
  rw [if_pos h2, if_pos h1]
theorem Row.mid {k : IntKind} {lo hi n c f h : Nat} {w : World} {a : Option Addr} {zs : List Int} (hr : Row k lo hi w a n zs) (h1 : f ≤ h) (h2 : h ≤ n) (h3 : n ≤ c) : Row k lo hi w (if c = f then a else a.map (·.add f)) (h - f) ((zs.take h).drop f) := by
  have hl := hr.len
  refine ⟨by simp; omega, fun z hz => hr.wf z (List.mem_of_mem_take (List.mem_of_mem_drop hz)), fun hp => ?_⟩
  obtain ⟨b, off, rfl, e2, e3, e4⟩ := hr.here (by omega)
  rw [if_neg (by omega)]
  refine ⟨b, off + f, by show some ((⟨b, off, none⟩ : Addr).add f) = _; rw [add_pl], e2, e3, fun j hj => ?_⟩
  rw [show off + f + j = off + (f + j) by omega, e4 (f + j) (by omega)]
  have e : ((zs.take h).drop f).getD j 0 = zs.getD (f + j) 0 := by
    simp only [List.getD_eq_getElem?_getD, List.getElem?_drop]
    rw [List.getElem?_take_of_lt (by omega)]
  rw [e]
set_option maxRecDepth 100000 in
theorem cut_head (w : World) (a : Option Addr) (n c j : Nat) (h : j ≤ c) : (Instr.slice 29 (.slice a n c) none (some (.int .i64 (j : Int))) none).run Try.prog w = .ok (.slice a j c) w := by
  obtain ⟨i0, hi0, hz0, hz1, hz2⟩ := info_parts info
  simp [Instr.slice, run_underlying Try.underlying29, Instr.sliceBounds, Instr.sliceBound, sizeOf, typeInfo, hi0, go_sem]
  exact fun h' => absurd h' (by omega)
set_option maxRecDepth 100000 in
theorem cut_tail (w : World) (a : Option Addr) (n c j : Nat) (h : j ≤ n) : (Instr.slice 29 (.slice a n c) (some (.int .i64 (j : Int))) none none).run Try.prog w = .ok (.slice (if c = j then a else a.map (·.add j)) (n - j) (c - j)) w := by
  obtain ⟨i0, hi0, hz0, hz1, hz2⟩ := info_parts info
  simp [Instr.slice, run_underlying Try.underlying29, Instr.sliceBounds, Instr.sliceBound, sizeOf, typeInfo, hi0, go_sem, hz1]
  exact fun h' => absurd h' (by omega)
theorem Row.head {k : IntKind} {lo hi n h : Nat} {w : World} {a : Option Addr} {zs : List Int} (hr : Row k lo hi w a n zs) (h2 : h ≤ n) : Row k lo hi w a h (zs.take h) := by
  have hl := hr.len
  refine ⟨by simp; omega, fun z hz => hr.wf z (List.mem_of_mem_take hz), fun hp => ?_⟩
  obtain ⟨b, off, rfl, e2, e3, e4⟩ := hr.here (by omega)
  refine ⟨b, off, rfl, e2, e3, fun j hj => ?_⟩
  rw [e4 j (by omega), List.getD_eq_getElem?_getD, List.getD_eq_getElem?_getD, List.getElem?_take_of_lt hj]
theorem Row.tail {k : IntKind} {lo hi n c j : Nat} {w : World} {a : Option Addr} {zs : List Int} (hr : Row k lo hi w a n zs) (h2 : j ≤ n) (h3 : n ≤ c) : Row k lo hi w (if c = j then a else a.map (·.add j)) (n - j) (zs.drop j) := by
  have h := Row.mid hr h2 (Nat.le_refl n) h3
  rwa [← hr.len, List.take_length, hr.len] at h
end Go.Proofs.Ytldpgkbemgpacaa.Nts
