/-
  One number appended to a row of the call's own, as one step of a region that draws its order.
  Conditions: none; nothing of the program stands here.
-/
import Derived.Test.YtmiemfecbllhfaaMem
import Derived.Deep.RegionLaw
namespace Go.Proofs.Ytmiemfecbllhfaa.Mem
open Go Go.RowKit

theorem step_append_one {P : Program} {ops : Array Oper} {o : Oper} {a : Act} {w : World} {K : Act → World → Prop} {Q : Exit → Act → World → Prop} {E : Prop} {k : IntKind} (hgd : o.guard = none) (s x : Operand) (t : TypeId)
    (ho : o.op = .call { callee := .builtin .append, args := #[s, x], argTypes := #[t, t] })
    (base e : Nat) (i : TypeInfo) (z : Value) (bytes : Nat) (ht : P.underlying t = some (.slice e)) (hi : P.info? e = some i) (hz : i.zero = some z)
    (hsize : i.size = 1) (hby : i.bytes = bytes) (hzs : z.cells.size = 1)
    (v : Value) (n : Nat) (xs : List Int) (hs : a.eval s = v) (hown : OwnI k e base w v n xs)
    (g c : Nat) (q : Int) (hx : a.eval x = .slice (some ⟨g, 0, none⟩) 1 c) (hr : w.cell? ⟨g, 0, none⟩ = some (.int k q))
    (h63 : n + 1 ≤ maxLen) (hbytes : (n + 1) * bytes ≤ 140737488355328) (hbase : base ≤ w.heap.size)
    (h : ∀ v' w', OwnI k e base w' v' (n + 1) (xs ++ [q]) → Below base w w' → K (a.put o.dst v') w') :
    if Region.wanted o (yielded ops a.tmps) = true then Oper.wp P o a w K Q else E := by
  have hw : Region.wanted o (yielded ops a.tmps) = true := by simp [Region.wanted, hgd]
  rw [if_pos hw]
  refine wp_append_own w s x t ho base e i z 1 bytes ht hi hz hsize hby hzs (by omega) v n _ hs hown ⟨g, 0, none⟩ 1 c ([q].map (Value.int k)) hx rfl ?_ (ints_oneCell k [q]) h63 hbytes hbase ?_
  · intro j u hu
    cases j with
    | zero => simp at hu; subst hu; exact hr
    | succ j => simp at hu
  · intro v' w' h2 h3 _
    exact h v' w' (by unfold OwnI; rw [List.map_append]; exact h2) (OwnI.grown hown h3 hbase)
/-- A store into a row. -/
theorem Own.set {k : IntKind} {lo hi n : Nat} {w : World} {b off : Nat} {zs : List Int} (h : Own k lo hi w (some ⟨b, off, none⟩) n zs) (j : Nat) (v : Int) (hj : j < n) (hv : (Lit.int k v).wf = true) :
    Own k lo hi (w.setCell ⟨b, off + j, none⟩ (.int k v)) (some ⟨b, off, none⟩) n (zs.set j v) := by
  have hl := h.len
  refine ⟨by rw [List.length_set]; exact hl, fun z hz => ?_, fun hn => ?_⟩
  · rcases List.mem_or_eq_of_mem_set hz with hz | rfl
    · exact h.wf z hz
    · exact hv
  · obtain ⟨b', off', he, hlo, hhi, hc⟩ := h.here hn
    injection he with he
    injection he with h1 h2 _
    subst h1 h2
    refine ⟨b, off, rfl, hlo, hhi, fun i hi => ⟨?_, by rw [World.frozen?_setCell]; exact (hc i hi).2⟩⟩
    rw [List.getD_eq_getElem?_getD, List.getElem?_set, hl]
    by_cases hji : j = i
    · subst hji
      rw [if_pos rfl, if_pos hi]
      exact World.cell?_setCell_same _ _ _ (hc j hj).1
    · rw [if_neg hji, World.cell?_setCell_other _ _ _ _ (by intro h; injection h with _ h _; omega), ← List.getD_eq_getElem?_getD]
      exact (hc i hi).1
end Go.Proofs.Ytmiemfecbllhfaa.Mem
