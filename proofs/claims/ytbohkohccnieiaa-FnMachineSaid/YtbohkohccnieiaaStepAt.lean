/-
  An append of a row onto a row of the call's own, in a region that draws: what else lies as it lay.
  Conditions: none; nothing of the program stands here.
-/
import Derived.Test.YtbohkohccnieiaaStep
import Derived.Test.YtbohkohccnieiaaInts
import Derived.Maps.AppendAt
namespace Go.Proofs.Ytbohkohccnieiaa.Draw
open Go Go.RowKit Go.Proofs.Ytbohkohccnieiaa.Mem

/-- An append of a row onto a row of the call's own, in a region that draws: where the new one lies. -/
theorem step_append_rows_at {P : Program} {ops : Array Oper} {o : Oper} {a : Act} {w : World} {K : Act → World → Prop} {Q : Exit → Act → World → Prop} {E : Prop} {k : IntKind} (hgd : o.guard = none) (s x : Operand) (t : TypeId)
    (ho : o.op = .call { callee := .builtin .append, args := #[s, x], argTypes := #[t, t] })
    (base e : Nat) (i : TypeInfo) (z : Value) (bytes : Nat) (ht : P.underlying t = some (.slice e)) (hi : P.info? e = some i) (hz : i.zero = some z)
    (hsize : i.size = 1) (hby : i.bytes = bytes) (hzs : z.cells.size = 1)
    (v : Value) (n : Nat) (xs : List Int) (hs : a.eval s = v) (hown : OwnI k e base w v n xs)
    (lo hi' : Nat) (A : Option Addr) (m c : Nat) (zs : List Int) (hx : a.eval x = .slice A m c) (hr : Row k lo hi' w A m zs)
    (h63 : n + m ≤ maxLen) (hbytes : (n + m) * bytes ≤ 140737488355328) (hbase : base ≤ w.heap.size)
    (h : ∀ v' w', OwnI k e base w' v' (n + m) (xs ++ zs) → w.grownBy w' v.ownBlock → (v'.ownBlock = v.ownBlock ∨ v'.ownBlock = some w.heap.size) → K (a.put o.dst v') w') :
    if Region.wanted o (yielded ops a.tmps) = true then Oper.wp P o a w K Q else E := by
  have hw : Region.wanted o (yielded ops a.tmps) = true := by simp [Region.wanted, hgd]
  rw [if_pos hw]
  have hl := hr.len
  rcases A with _ | ad
  · have hm : m = 0 := by
      rcases Nat.eq_zero_or_pos m with h0 | h0
      · exact h0
      · obtain ⟨b, off, h, _⟩ := hr.here h0; cases h
    subst hm
    obtain rfl := List.eq_nil_of_length_eq_zero hl
    have hrun := run_append_none (P := P) t o.type i ht hi c hown
    unfold Oper.wp
    simp only [execOp, ho, resolve, invoke, builtin, Sem.run_bind, Sem.run_pure, Result.andThen_ok, List.map_toArray, List.map_cons, List.map_nil, hs, hx, hrun]
    exact h v w (by simpa using hown) ⟨rfl, rfl, rfl, Nat.le_refl _, fun _ _ _ => rfl⟩ (.inl rfl)
  · obtain ⟨v', w', hrun, h2, h3, _, h5⟩ := run_append_own_at (P := P) w base t o.type e i z 1 bytes ht hi hz hsize hby hzs (by omega) v n _ hown ad m c (zs.map (Value.int k)) (by simpa using hl) (fun j u hu => by
      have hj : j < m := by
        have := (List.getElem?_eq_some_iff.1 hu).1
        simp at this; omega
      obtain ⟨b, off, hab, _, _, hc⟩ := hr.cell hj
      injection hab with hab
      subst hab
      rw [getD_map_int _ _ _ (by omega)] at hu
      injection hu with hu
      subst hu
      rw [add_pl]; exact hc) (ints_oneCell k zs) h63 hbytes hbase
    unfold Oper.wp
    simp only [execOp, ho, resolve, invoke, builtin, Sem.run_bind, Sem.run_pure, Result.andThen_ok, List.map_toArray, List.map_cons, List.map_nil, hs, hx, hrun]
    exact h v' w' (by unfold OwnI; rw [List.map_append]; exact h2) h3 h5
end Go.Proofs.Ytbohkohccnieiaa.Draw
