/-
  One number appended to a row of the call's own, as one step of a region that draws its order. Rows of the call's own beside stores into other blocks. An append of a row onto a row of the call's own, in a region that draws: what else lies as it lay.
  Conditions: as each theorem states them.
-/
import Derived.Test.YtagnhfalmefbhaaMem
import Derived.Deep.RegionLaw
import Derived.Test.YtagnhfalmefbhaaAdr
import Derived.Test.YtagnhfalmefbhaaInts
import Derived.Maps.AppendAt
namespace Go.Proofs.Ytagnhfalmefbhaa.Mem
open Go Go.RowKit

theorem step_append_one {P : Program} {ops : Array Oper} {o : Oper} {a : Act} {w : World} {K : Act → World → Prop} {Q : Exit → Act → World → Prop} {E : Prop} {k : IntKind} (hgd : o.guard = none) (s x : Operand) (t : TypeId)
    (ho : o.op = .call { callee := .builtin .append, args := #[s, x], argTypes := #[t, t] })
    (base e : Nat) (i : TypeInfo) (z : Value) (bytes : Nat) (ht : P.underlying t = some (.slice e)) (hi : P.info? e = some i) (hz : i.zero = some z)
    (hsize : i.size = 1) (hby : i.bytes = bytes) (hzs : z.cells.size = 1)
    (v : Value) (n : Nat) (xs : List Int) (hs : a.eval s = v) (hown : OwnI k e base w v n xs)
    (g c : Nat) (q : Int) (hx : a.eval x = .slice (some ⟨g, 0, none⟩) 1 c) (hr : w.cell? ⟨g, 0, none⟩ = some (.int k q))
    (h63 : n + 1 ≤ maxLen) (hbytes : (n + 1) * bytes ≤ 140737488355328) (hbase : base ≤ w.heap.size)
    (h : ∀ v' w', OwnI k e base w' v' (n + 1) (xs ++ [q]) → Below base w w' → K (a.put o.dst v') w') :
    if Region.wanted o (yielded ops a.tmps) = true then Oper.wp P o a w K Q else E := by
  have hw : Region.wanted o (yielded ops a.tmps) = true := by simp [Region.wanted, hgd]
  rw [if_pos hw]
  refine wp_append_own w s x t ho base e i z 1 bytes ht hi hz hsize hby hzs (by omega) v n _ hs hown ⟨g, 0, none⟩ 1 c ([q].map (Value.int k)) hx rfl ?_ (ints_oneCell k [q]) h63 hbytes hbase ?_
  · intro j u hu
    cases j with
    | zero => simp at hu; subst hu; exact hr
    | succ j => simp at hu
  · intro v' w' h2 h3 _
    exact h v' w' (by unfold OwnI; rw [List.map_append]; exact h2) (OwnI.grown hown h3 hbase)
/-- A store into a row. -/
theorem Own.set {k : IntKind} {lo hi n : Nat} {w : World} {b off : Nat} {zs : List Int} (h : Own k lo hi w (some ⟨b, off, none⟩) n zs) (j : Nat) (v : Int) (hj : j < n) (hv : (Lit.int k v).wf = true) :
    Own k lo hi (w.setCell ⟨b, off + j, none⟩ (.int k v)) (some ⟨b, off, none⟩) n (zs.set j v) := by
  have hl := h.len
  refine ⟨by rw [List.length_set]; exact hl, fun z hz => ?_, fun hn => ?_⟩
  · rcases List.mem_or_eq_of_mem_set hz with hz | rfl
    · exact h.wf z hz
    · exact hv
  · obtain ⟨b', off', he, hlo, hhi, hc⟩ := h.here hn
    injection he with he
    injection he with h1 h2 _
    subst h1 h2
    refine ⟨b, off, rfl, hlo, hhi, fun i hi => ⟨?_, by rw [World.frozen?_setCell]; exact (hc i hi).2⟩⟩
    rw [List.getD_eq_getElem?_getD, List.getElem?_set, hl]
    by_cases hji : j = i
    · subst hji
      rw [if_pos rfl, if_pos hi]
      exact World.cell?_setCell_same _ _ _ (hc j hj).1
    · rw [if_neg hji, World.cell?_setCell_other _ _ _ _ (by intro h; injection h with _ h _; omega), ← List.getD_eq_getElem?_getD]
      exact (hc i hi).1
section
variable {P : Program} {ops : Array Oper} {rest : List Oper} {o : Oper} {a : Act} {w : World} {Q : Exit → Act → World → Prop} {k : IntKind}
/-- An operation whose guard is met. -/
theorem wpList_wanted (hw : Region.wanted o (yielded ops a.tmps) = true)
    (h : ∀ K : Act → World → Prop, (∀ a w, wpList P ops Q rest a w → K a w) → o.wp P a w K Q) : wpList P ops Q (o :: rest) a w :=
  wpList_step fun K hK => by rw [if_pos hw]; exact h K hK

theorem wpList_append_row_w (hw : Region.wanted o (yielded ops a.tmps) = true) (s x : Operand) (t : TypeId)
    (ho : o.op = .call { callee := .builtin .append, args := #[s, x], argTypes := #[t, t] })
    (base e : Nat) (i : TypeInfo) (z : Value) (bytes : Nat) (ht : P.underlying t = some (.slice e)) (hi : P.info? e = some i) (hz : i.zero = some z)
    (hsize : i.size = 1) (hby : i.bytes = bytes) (hzs : z.cells.size = 1)
    (v : Value) (n : Nat) (xs : List Int) (hs : a.eval s = v) (hown : OwnI k e base w v n xs)
    (lo hi' : Nat) (A : Option Addr) (m c : Nat) (zs : List Int) (hx : a.eval x = .slice A m c) (hr : Row k lo hi' w A m zs)
    (h63 : n + m ≤ maxLen) (hbytes : (n + m) * bytes ≤ 140737488355328) (hbase : base ≤ w.heap.size)
    (h : ∀ v' w', OwnI k e base w' v' (n + m) (xs ++ zs) → Below base w w' → wpList P ops Q rest (a.put o.dst v') w') : wpList P ops Q (o :: rest) a w := by
  have hl := hr.len
  rcases A with _ | ad
  · have hm : m = 0 := by
      rcases Nat.eq_zero_or_pos m with h0 | h0
      · exact h0
      · obtain ⟨b, off, h, _⟩ := hr.here h0; cases h
    subst hm
    obtain rfl := List.eq_nil_of_length_eq_zero hl
    have hrun := run_append_none (P := P) t o.type i ht hi c hown
    refine wpList_wanted hw fun K hK => ?_
    unfold Oper.wp
    simp [execOp, ho, resolve, invoke, builtin, hs, hx, hrun, Result.andThen]
    exact hK _ _ (h v w (by simpa using hown) (Below.refl _ _))
  · refine wpList_wanted hw fun K hK => ?_
    refine wp_append_own w s x t ho base e i z 1 bytes ht hi hz hsize hby hzs (by omega) v n _ hs hown ad m c (zs.map (Value.int k)) hx (by simpa using hl) ?_ (ints_oneCell k zs) h63 hbytes hbase ?_
    · intro j u hu
      have hj : j < m := by
        have := (List.getElem?_eq_some_iff.1 hu).1
        simp at this; omega
      obtain ⟨b, off, hab, _, _, hc⟩ := hr.cell hj
      injection hab with hab
      subst hab
      rw [getD_map_int _ _ _ (by omega)] at hu
      injection hu with hu
      subst hu
      rw [add_pl]; exact hc
    · intro v' w' h2 h3 _
      exact hK _ _ (h v' w' (by unfold OwnI; rw [List.map_append]; exact h2) (OwnI.grown hown h3 hbase))

theorem wpList_append_one_w (hw : Region.wanted o (yielded ops a.tmps) = true) (s x : Operand) (t : TypeId)
    (ho : o.op = .call { callee := .builtin .append, args := #[s, x], argTypes := #[t, t] })
    (base e : Nat) (i : TypeInfo) (z : Value) (bytes : Nat) (ht : P.underlying t = some (.slice e)) (hi : P.info? e = some i) (hz : i.zero = some z)
    (hsize : i.size = 1) (hby : i.bytes = bytes) (hzs : z.cells.size = 1)
    (v : Value) (n : Nat) (xs : List Int) (hs : a.eval s = v) (hown : OwnI k e base w v n xs)
    (g c : Nat) (q : Int) (hx : a.eval x = .slice (some ⟨g, 0, none⟩) 1 c) (hr : w.cell? ⟨g, 0, none⟩ = some (.int k q))
    (h63 : n + 1 ≤ maxLen) (hbytes : (n + 1) * bytes ≤ 140737488355328) (hbase : base ≤ w.heap.size)
    (h : ∀ v' w', OwnI k e base w' v' (n + 1) (xs ++ [q]) → Below base w w' → wpList P ops Q rest (a.put o.dst v') w') : wpList P ops Q (o :: rest) a w := by
  refine wpList_wanted hw fun K hK => ?_
  refine wp_append_own w s x t ho base e i z 1 bytes ht hi hz hsize hby hzs (by omega) v n _ hs hown ⟨g, 0, none⟩ 1 c ([q].map (Value.int k)) hx rfl ?_ (ints_oneCell k [q]) h63 hbytes hbase ?_
  · intro j u hu
    cases j with
    | zero => simp at hu; subst hu; exact hr
    | succ j => simp at hu
  · intro v' w' h2 h3 _
    exact hK _ _ (h v' w' (by unfold OwnI; rw [List.map_append]; exact h2) (OwnI.grown hown h3 hbase))
end
end Go.Proofs.Ytagnhfalmefbhaa.Mem
namespace Go.Proofs.Ytagnhfalmefbhaa.Draw
open Go Go.RowKit Go.Proofs.Ytagnhfalmefbhaa.Mem Go.Proofs.Ytagnhfalmefbhaa.Adr

theorem ownI_shape {k : IntKind} {e : TypeId} {base n : Nat} {w : World} {v : Value} {zs : List Int} (h : OwnI k e base w v n zs) : ∃ a c, v = .slice a n c := by
  rcases h.2 with ⟨rfl, rfl⟩ | ⟨g, cap, cur, rfl, _⟩
  · exact ⟨none, 0, rfl⟩
  · exact ⟨_, _, rfl⟩
theorem ownI_more {k : IntKind} {e : TypeId} {base base' n : Nat} {w : World} {v : Value} {zs : List Int} (h : OwnI k e base w v n zs) (hle : base' ≤ base) : OwnI k e base' w v n zs :=
  ⟨h.1, h.2.imp id (fun ⟨g, cap, cur, hv, hb, rest⟩ => ⟨g, cap, cur, hv, Nat.le_trans hle hb, rest⟩)⟩
theorem ownI_old {k : IntKind} {e : TypeId} {base n : Nat} {w : World} {v : Value} {zs : List Int} (h : OwnI k e base w v n zs) {a : Addr} (ha : a.block < base) (u : Value) : OwnI k e base (w.setCell a u) v n zs :=
  World.ownsRow.kept h (row := some a.block) ⟨rfl, rfl, rfl, by rw [size_set]; exact Nat.le_refl _, fun i _ hne => heap_setCell_other w a i u (fun e => hne (by rw [e]))⟩ (by
    by_cases hv : v.ownBlock = some a.block
    · have := (World.ownsRow.lt h a.block hv).1; omega
    · exact .inr hv)
theorem own5 {R : Nat} {w2 : World} {k : IntKind} {e : TypeId} {base n : Nat} {v : Value} {zs : List Int} (h : OwnI k e base w2 v n zs) (hR : R < base) (y0 y1 y2 y3 y4 : Value) :
    OwnI k e base (((((w2.setCell ⟨R, 0, none⟩ y0).setCell ⟨R, 1, none⟩ y1).setCell ⟨R, 2, none⟩ y2).setCell ⟨R, 3, none⟩ y3).setCell ⟨R, 4, none⟩ y4) v n zs :=
  ownI_old (ownI_old (ownI_old (ownI_old (ownI_old h (a := ⟨R, 0, none⟩) hR y0) (a := ⟨R, 1, none⟩) hR y1) (a := ⟨R, 2, none⟩) hR y2) (a := ⟨R, 3, none⟩) hR y3) (a := ⟨R, 4, none⟩) hR y4
end Go.Proofs.Ytagnhfalmefbhaa.Draw
namespace Go.Proofs.Ytagnhfalmefbhaa.Draw
open Go Go.RowKit Go.Proofs.Ytagnhfalmefbhaa.Mem

/-- An append of a row onto a row of the call's own, in a region that draws: where the new one lies. -/
theorem step_append_rows_at {P : Program} {ops : Array Oper} {o : Oper} {a : Act} {w : World} {K : Act → World → Prop} {Q : Exit → Act → World → Prop} {E : Prop} {k : IntKind} (hgd : o.guard = none) (s x : Operand) (t : TypeId)
    (ho : o.op = .call { callee := .builtin .append, args := #[s, x], argTypes := #[t, t] })
    (base e : Nat) (i : TypeInfo) (z : Value) (bytes : Nat) (ht : P.underlying t = some (.slice e)) (hi : P.info? e = some i) (hz : i.zero = some z)
    (hsize : i.size = 1) (hby : i.bytes = bytes) (hzs : z.cells.size = 1)
    (v : Value) (n : Nat) (xs : List Int) (hs : a.eval s = v) (hown : OwnI k e base w v n xs)
    (lo hi' : Nat) (A : Option Addr) (m c : Nat) (zs : List Int) (hx : a.eval x = .slice A m c) (hr : Row k lo hi' w A m zs)
    (h63 : n + m ≤ maxLen) (hbytes : (n + m) * bytes ≤ 140737488355328) (hbase : base ≤ w.heap.size)
    (h : ∀ v' w', OwnI k e base w' v' (n + m) (xs ++ zs) → w.grownBy w' v.ownBlock → (v'.ownBlock = v.ownBlock ∨ v'.ownBlock = some w.heap.size) → K (a.put o.dst v') w') :
    if Region.wanted o (yielded ops a.tmps) = true then Oper.wp P o a w K Q else E := by
  have hw : Region.wanted o (yielded ops a.tmps) = true := by simp [Region.wanted, hgd]
  rw [if_pos hw]
  have hl := hr.len
  rcases A with _ | ad
  · have hm : m = 0 := by
      rcases Nat.eq_zero_or_pos m with h0 | h0
      · exact h0
      · obtain ⟨b, off, h, _⟩ := hr.here h0; cases h
    subst hm
    obtain rfl := List.eq_nil_of_length_eq_zero hl
    have hrun := run_append_none (P := P) t o.type i ht hi c hown
    unfold Oper.wp
    simp only [execOp, ho, resolve, invoke, builtin, Sem.run_bind, Sem.run_pure, Result.andThen_ok, List.map_toArray, List.map_cons, List.map_nil, hs, hx, hrun]
    exact h v w (by simpa using hown) ⟨rfl, rfl, rfl, Nat.le_refl _, fun _ _ _ => rfl⟩ (.inl rfl)
  · obtain ⟨v', w', hrun, h2, h3, _, h5⟩ := run_append_own_at (P := P) w base t o.type e i z 1 bytes ht hi hz hsize hby hzs (by omega) v n _ hown ad m c (zs.map (Value.int k)) (by simpa using hl) (fun j u hu => by
      have hj : j < m := by
        have := (List.getElem?_eq_some_iff.1 hu).1
        simp at this; omega
      obtain ⟨b, off, hab, _, _, hc⟩ := hr.cell hj
      injection hab with hab
      subst hab
      rw [getD_map_int _ _ _ (by omega)] at hu
      injection hu with hu
      subst hu
      rw [add_pl]; exact hc) (ints_oneCell k zs) h63 hbytes hbase
    unfold Oper.wp
    simp only [execOp, ho, resolve, invoke, builtin, Sem.run_bind, Sem.run_pure, Result.andThen_ok, List.map_toArray, List.map_cons, List.map_nil, hs, hx, hrun]
    exact h v' w' (by unfold OwnI; rw [List.map_append]; exact h2) h3 h5
end Go.Proofs.Ytagnhfalmefbhaa.Draw
