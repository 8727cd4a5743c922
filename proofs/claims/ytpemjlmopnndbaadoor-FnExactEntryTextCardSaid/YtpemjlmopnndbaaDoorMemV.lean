/-
  A row of values (texts) of the call's own: an append of one value.
  Conditions: none; nothing of the program stands here.
-/
import Derived.Test.YtpemjlmopnndbaaDoorMem
namespace Go.Proofs.YtpemjlmopnndbaaDoor.Mem
open Go Go.RowKit

/-- A row of values, one cell each, of the call's own, from block base on. -/
def OwnV (e : TypeId) (base : Nat) (w : World) (v : Value) (n : Nat) (xs : List Value) : Prop := w.ownsRow base e 1 v n xs

section
variable {e : TypeId} {base n : Nat} {w w' : World} {v : Value} {xs : List Value}
theorem OwnV.grown {row : World} (h : OwnV e base w v n xs) (hg : w.grownBy row v.ownBlock) (hB : base ≤ w.heap.size) : Below base w row :=
  (Below.refl _ _).grown hg hB fun i hi => (World.ownsRow.lt h i hi).1
theorem OwnV.lit (e : TypeId) {base : Nat} (w : World) (xs : List Value) (hb : base ≤ w.heap.size) (hm : xs.length ≤ maxLen) :
    OwnV e base (w.alloc (.cells xs.toArray e)) (.slice (some ⟨w.heap.size, 0, none⟩) xs.length xs.length) xs.length xs := by
  have := World.ownsRow_lit (e := e) (base := base) (size := 1) w xs.toArray xs.length hb hm (by simp)
  simpa [OwnV] using this
theorem OwnV.made (e : TypeId) {base : Nat} (w : World) (hb : base ≤ w.heap.size) : OwnV e base (w.alloc (.cells #[] e)) (.slice (some ⟨w.heap.size, 0, none⟩) 0 0) 0 [] :=
  OwnV.lit e w [] hb (by simp)
theorem OwnV.len (h : OwnV e base w v n xs) : xs.length = n := by have := h.1; simpa using this
theorem OwnV.alloc (h : OwnV e base w v n xs) (o : Obj) : OwnV e base (w.alloc o) v n xs := World.ownsRow.alloc h o
theorem OwnV.below (h : OwnV e base w v n xs) (hb : Below w.heap.size w w') : OwnV e base w' v n xs :=
  World.ownsRow.kept h (row := none) ⟨hb.os, hb.tape, hb.output, hb.size, fun i hi _ => hb.block i hi⟩ (by cases hv : v.ownBlock <;> simp)
/-- A row that is not empty: its address, its cells. -/
theorem OwnV.cells (h : OwnV e base w v n xs) (hn : 0 < n) : ∃ g c, v = .slice (some ⟨g, 0, none⟩) n c ∧ base ≤ g ∧ n ≤ c ∧ c ≤ maxLen ∧ ∀ j (hj : j < xs.length), w.cell? ⟨g, j, none⟩ = some xs[j] := by
  have hl := h.len
  rcases h.2 with ⟨_, h0⟩ | ⟨g, cap, cur, rfl, hb, hg, hnc, hcm, hcs, _⟩
  · omega
  · refine ⟨g, cap, rfl, hb, hnc, hcm, fun j hj => ?_⟩
    rw [World.ownsRow.cellAt h j (by omega), List.getElem?_eq_getElem hj]

/-- An append of one value. -/
theorem wpList_append_val {P : Program} {ops : Array Oper} {rest : List Oper} {o : Oper} {a : Act} {Q : Exit → Act → World → Prop} (hgd : o.guard = none) (s x : Operand) (t : TypeId)
    (ho : o.op = .call { callee := .builtin .append, args := #[s, x], argTypes := #[t, t] })
    (base e : Nat) (i : TypeInfo) (z : Value) (bytes : Nat) (ht : P.underlying t = some (.slice e)) (hi : P.info? e = some i) (hz : i.zero = some z)
    (hsize : i.size = 1) (hby : i.bytes = bytes) (hzs : z.cells.size = 1)
    (v : Value) (n : Nat) (xs : List Value) (hs : a.eval s = v) (hown : OwnV e base w v n xs)
    (g c : Nat) (q : Value) (hq : q.oneCell' = true) (hx : a.eval x = .slice (some ⟨g, 0, none⟩) 1 c) (hr : w.cell? ⟨g, 0, none⟩ = some q)
    (h63 : n + 1 ≤ maxLen) (hbytes : (n + 1) * bytes ≤ 140737488355328) (hbase : base ≤ w.heap.size)
    (h : ∀ v' w', OwnV e base w' v' (n + 1) (xs ++ [q]) → Below base w w' → (∀ k, k < w.heap.size → some k ≠ v.ownBlock → w'.heap[k]? = w.heap[k]?) → wpList P ops Q rest (a.put o.dst v') w') : wpList P ops Q (o :: rest) a w := by
  refine wpList_append_own w hgd s x t ho base e i z 1 bytes ht hi hz hsize hby hzs (by omega) v n xs hs hown ⟨g, 0, none⟩ 1 c [q] hx rfl ?_ (by intro u hu; simp at hu; subst hu; exact hq) h63 hbytes hbase ?_
  · intro j u hu
    cases j with
    | zero => simp at hu; subst hu; exact hr
    | succ j => simp at hu
  · intro v' w' h2 h3 _
    exact h v' w' h2 (OwnV.grown hown h3 hbase) (fun k hk hn => h3.block k hk hn)

theorem run_append_none_v {P : Program} (t ty : TypeId) (i : TypeInfo) (ht : P.underlying t = some (.slice e)) (hi : P.info? e = some i) (c : Nat) (h : OwnV e base w v n xs) :
    (Builtin.append_ #[t, t] ty #[v, .slice none 0 c]).run P w = .ok v w := by
  rcases h.2 with ⟨rfl, rfl⟩ | ⟨g, cap, cur, rfl, _, _, hnc, _⟩
  · simp [Builtin.append_, run_underlying ht, sizeOf, typeInfo, hi, Builtin.lenOf, Builtin.firstCells]
  · simp [Builtin.append_, run_underlying ht, sizeOf, typeInfo, hi, Builtin.lenOf, Builtin.firstCells, hnc, storeCells]

/-- An append of a whole row of values. -/
theorem wpList_append_vals {P : Program} {ops : Array Oper} {rest : List Oper} {o : Oper} {a : Act} {Q : Exit → Act → World → Prop} (hgd : o.guard = none) (s x : Operand) (t : TypeId)
    (ho : o.op = .call { callee := .builtin .append, args := #[s, x], argTypes := #[t, t] })
    (base e : Nat) (i : TypeInfo) (z : Value) (bytes : Nat) (ht : P.underlying t = some (.slice e)) (hi : P.info? e = some i) (hz : i.zero = some z)
    (hsize : i.size = 1) (hby : i.bytes = bytes) (hzs : z.cells.size = 1)
    (v : Value) (n : Nat) (xs : List Value) (hs : a.eval s = v) (hown : OwnV e base w v n xs)
    (base2 : Nat) (v2 : Value) (m : Nat) (ys : List Value) (hx : a.eval x = v2) (h2 : OwnV e base2 w v2 m ys) (hq : ∀ u ∈ ys, u.oneCell' = true)
    (h63 : n + m ≤ maxLen) (hbytes : (n + m) * bytes ≤ 140737488355328) (hbase : base ≤ w.heap.size)
    (h : ∀ v' w', OwnV e base w' v' (n + m) (xs ++ ys) → Below base w w' → wpList P ops Q rest (a.put o.dst v') w') : wpList P ops Q (o :: rest) a w := by
  have hl := h2.len
  rcases h2.2 with ⟨rfl, hm⟩ | ⟨g, cap, cur, rfl, _, _, _⟩
  · subst hm
    obtain rfl := List.eq_nil_of_length_eq_zero hl
    have hrun := run_append_none_v (P := P) t o.type i ht hi 0 hown
    refine wpList_plain hgd fun K hK => ?_
    unfold Oper.wp
    simp [execOp, ho, resolve, invoke, builtin, hs, hx, hrun, Result.andThen]
    exact hK _ _ (h v w (by simpa using hown) (Below.refl _ _))
  · refine wpList_append_own w hgd s x t ho base e i z 1 bytes ht hi hz hsize hby hzs (by omega) v n xs hs hown ⟨g, 0, none⟩ m cap ys hx (by simpa using hl) ?_ hq h63 hbytes hbase ?_
    · intro j u hu
      have hj : j < m := by
        have := (List.getElem?_eq_some_iff.1 hu).1
        omega
      rw [add_pl, Nat.zero_add, World.ownsRow.cellAt h2 j (by omega), hu]
    · intro v' w' h3 h4 _
      exact h v' w' h3 (OwnV.grown hown h4 hbase)
end
end Go.Proofs.YtpemjlmopnndbaaDoor.Mem
