/-
  One number appended to a row of the call's own, as one step of a region that draws its order.
  Conditions: none; nothing of the program stands here.
-/
import Derived.Test.YtbohkohccnieiaaMem
import Derived.Deep.RegionLaw
namespace Go.Proofs.Ytbohkohccnieiaa.Mem
open Go Go.RowKit

theorem step_append_one {P : Program} {ops : Array Oper} {o : Oper} {a : Act} {w : World} {K : Act → World → Prop} {Q : Exit → Act → World → Prop} {E : Prop} {k : IntKind} (hgd : o.guard = none) (s x : Operand) (t : TypeId)
    (ho : o.op = .call { callee := .builtin .append, args := #[s, x], argTypes := #[t, t] })
    (base e : Nat) (i : TypeInfo) (z : Value) (bytes : Nat) (ht : P.underlying t = some (.slice e)) (hi : P.info? e = some i) (hz : i.zero = some z)
    (hsize : i.size = 1) (hby : i.bytes = bytes) (hzs : z.cells.size = 1)
    (v : Value) (n : Nat) (xs : List Int) (hs : a.eval s = v) (hown : OwnI k e base w v n xs)
    (g c : Nat) (q : Int) (hx : a.eval x = .slice (some ⟨g, 0, none⟩) 1 c) (hr : w.cell? ⟨g, 0, none⟩ = some (.int k q))
    (h63 : n + 1 ≤ maxLen) (hbytes : (n + 1) * bytes ≤ 140737488355328) (hbase : base ≤ w.heap.size)
    (h : ∀ v' w', OwnI k e base w' v' (n + 1) (xs ++ [q]) → Below base w w' → K (a.put o.dst v') w') :
    if Region.wanted o (yielded ops a.tmps) = true then Oper.wp P o a w K Q else E := by
  have hw : Region.wanted o (yielded ops a.tmps) = true := by simp [Region.wanted, hgd]
  rw [if_pos hw]
  refine wp_append_own w s x t ho base e i z 1 bytes ht hi hz hsize hby hzs (by omega) v n _ hs hown ⟨g, 0, none⟩ 1 c ([q].map (Value.int k)) hx rfl ?_ (ints_oneCell k [q]) h63 hbytes hbase ?_
  · intro j u hu
    cases j with
    | zero => simp at hu; subst hu; exact hr
    | succ j => simp at hu
  · intro v' w' h2 h3 _
    exact h v' w' (by unfold OwnI; rw [List.map_append]; exact h2) (OwnI.grown hown h3 hbase)
/-- A store into a row. -/
theorem Own.set {k : IntKind} {lo hi n : Nat} {w : World} {b off : Nat} {zs : List Int} (h : Own k lo hi w (some ⟨b, off, none⟩) n zs) (j : Nat) (v : Int) (hj : j < n) (hv : (Lit.int k v).wf = true) :
    Own k lo hi (w.setCell ⟨b, off + j, none⟩ (.int k v)) (some ⟨b, off, none⟩) n (zs.set j v) := by
  have hl := h.len
  refine ⟨by rw [List.length_set]; exact hl, fun z hz => ?_, fun hn => ?_⟩
  · rcases List.mem_or_eq_of_mem_set hz with hz | rfl
    · exact h.wf z hz
    · exact hv
  · obtain ⟨b', off', he, hlo, hhi, hc⟩ := h.here hn
    injection he with he
    injection he with h1 h2 _
    subst h1 h2
    refine ⟨b, off, rfl, hlo, hhi, fun i hi => ⟨?_, by rw [World.frozen?_setCell]; exact (hc i hi).2⟩⟩
    rw [List.getD_eq_getElem?_getD, List.getElem?_set, hl]
    by_cases hji : j = i
    · subst hji
      rw [if_pos rfl, if_pos hi]
      exact World.cell?_setCell_same _ _ _ (hc j hj).1
    · rw [if_neg hji, World.cell?_setCell_other _ _ _ _ (by intro h; injection h with _ h _; omega), ← List.getD_eq_getElem?_getD]
      exact (hc i hi).1
section
variable {P : Program} {ops : Array Oper} {rest : List Oper} {o : Oper} {a : Act} {w : World} {Q : Exit → Act → World → Prop} {k : IntKind}
/-- An operation whose guard is met. -/
theorem wpList_wanted (hw : Region.wanted o (yielded ops a.tmps) = true)
    (h : ∀ K : Act → World → Prop, (∀ a w, wpList P ops Q rest a w → K a w) → o.wp P a w K Q) : wpList P ops Q (o :: rest) a w :=
  wpList_step fun K hK => by rw [if_pos hw]; exact h K hK

theorem wpList_append_row_w (hw : Region.wanted o (yielded ops a.tmps) = true) (s x : Operand) (t : TypeId)
    (ho : o.op = .call { callee := .builtin .append, args := #[s, x], argTypes := #[t, t] })
    (base e : Nat) (i : TypeInfo) (z : Value) (bytes : Nat) (ht : P.underlying t = some (.slice e)) (hi : P.info? e = some i) (hz : i.zero = some z)
    (hsize : i.size = 1) (hby : i.bytes = bytes) (hzs : z.cells.size = 1)
    (v : Value) (n : Nat) (xs : List Int) (hs : a.eval s = v) (hown : OwnI k e base w v n xs)
    (lo hi' : Nat) (A : Option Addr) (m c : Nat) (zs : List Int) (hx : a.eval x = .slice A m c) (hr : Row k lo hi' w A m zs)
    (h63 : n + m ≤ maxLen) (hbytes : (n + m) * bytes ≤ 140737488355328) (hbase : base ≤ w.heap.size)
    (h : ∀ v' w', OwnI k e base w' v' (n + m) (xs ++ zs) → Below base w w' → wpList P ops Q rest (a.put o.dst v') w') : wpList P ops Q (o :: rest) a w := by
  have hl := hr.len
  rcases A with _ | ad
  · have hm : m = 0 := by
      rcases Nat.eq_zero_or_pos m with h0 | h0
      · exact h0
      · obtain ⟨b, off, h, _⟩ := hr.here h0; cases h
    subst hm
    obtain rfl := List.eq_nil_of_length_eq_zero hl
    have hrun := run_append_none (P := P) t o.type i ht hi c hown
    refine wpList_wanted hw fun K hK => ?_
    unfold Oper.wp
    simp [execOp, ho, resolve, invoke, builtin, hs, hx, hrun, Result.andThen]
    exact hK _ _ (h v w (by simpa using hown) (Below.refl _ _))
  · refine wpList_wanted hw fun K hK => ?_
    refine wp_append_own w s x t ho base e i z 1 bytes ht hi hz hsize hby hzs (by omega) v n _ hs hown ad m c (zs.map (Value.int k)) hx (by simpa using hl) ?_ (ints_oneCell k zs) h63 hbytes hbase ?_
    · intro j u hu
      have hj : j < m := by
        have := (List.getElem?_eq_some_iff.1 hu).1
        simp at this; omega
      obtain ⟨b, off, hab, _, _, hc⟩ := hr.cell hj
      injection hab with hab
      subst hab
      rw [getD_map_int _ _ _ (by omega)] at hu
      injection hu with hu
      subst hu
      rw [add_pl]; exact hc
    · intro v' w' h2 h3 _
      exact hK _ _ (h v' w' (by unfold OwnI; rw [List.map_append]; exact h2) (OwnI.grown hown h3 hbase))

theorem wpList_append_one_w (hw : Region.wanted o (yielded ops a.tmps) = true) (s x : Operand) (t : TypeId)
    (ho : o.op = .call { callee := .builtin .append, args := #[s, x], argTypes := #[t, t] })
    (base e : Nat) (i : TypeInfo) (z : Value) (bytes : Nat) (ht : P.underlying t = some (.slice e)) (hi : P.info? e = some i) (hz : i.zero = some z)
    (hsize : i.size = 1) (hby : i.bytes = bytes) (hzs : z.cells.size = 1)
    (v : Value) (n : Nat) (xs : List Int) (hs : a.eval s = v) (hown : OwnI k e base w v n xs)
    (g c : Nat) (q : Int) (hx : a.eval x = .slice (some ⟨g, 0, none⟩) 1 c) (hr : w.cell? ⟨g, 0, none⟩ = some (.int k q))
    (h63 : n + 1 ≤ maxLen) (hbytes : (n + 1) * bytes ≤ 140737488355328) (hbase : base ≤ w.heap.size)
    (h : ∀ v' w', OwnI k e base w' v' (n + 1) (xs ++ [q]) → Below base w w' → wpList P ops Q rest (a.put o.dst v') w') : wpList P ops Q (o :: rest) a w := by
  refine wpList_wanted hw fun K hK => ?_
  refine wp_append_own w s x t ho base e i z 1 bytes ht hi hz hsize hby hzs (by omega) v n _ hs hown ⟨g, 0, none⟩ 1 c ([q].map (Value.int k)) hx rfl ?_ (ints_oneCell k [q]) h63 hbytes hbase ?_
  · intro j u hu
    cases j with
    | zero => simp at hu; subst hu; exact hr
    | succ j => simp at hu
  · intro v' w' h2 h3 _
    exact hK _ _ (h v' w' (by unfold OwnI; rw [List.map_append]; exact h2) (OwnI.grown hown h3 hbase))
end
end Go.Proofs.Ytbohkohccnieiaa.Mem
