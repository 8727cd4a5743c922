/-
  A row of a call's own in a block alone, whose slice is spelt out: read, written, appended to.
  Conditions: none; nothing of the program stands here.
-/
import Derived.Test.YtbohkohccnieiaaIn1
import Derived.Test.YtbohkohccnieiaaOwn5
import Derived.Test.YtbohkohccnieiaaDrawMath
namespace Go.Proofs.Ytbohkohccnieiaa.Gen
open Go Go.RowKit Go.Proofs.Ytbohkohccnieiaa.Mem Go.Proofs.Ytbohkohccnieiaa.Draw

/-- A row of a call's own, at the head of block p, which may be appended to. -/
def Rw (p c : Nat) (w : World) (n : Nat) (zs : List Int) : Prop := OwnI .i64 3 p w (.slice (some ⟨p, 0, none⟩) n c) n zs
theorem Rw.here {p c n : Nat} {w : World} {zs : List Int} (h : Rw p c w n zs) : zs.length = n ∧ n ≤ c ∧ c ≤ maxLen ∧ ∃ cur, w.heap[p]? = some (.cells cur 3 (0, 0)) ∧ cur.size = c ∧ cur.toList.take n = zs.map (Value.int .i64) := by
  have hl := OwnI.len h
  rcases h.2 with ⟨e, _⟩ | ⟨g, cap, cur, e, _, hg, h1, h2, h3, h4⟩
  · simp at e
  · injection e with e1 e2 e3
    injection e1 with e1
    injection e1 with e1
    subst e1 e3
    exact ⟨hl, h1, h2, cur, hg, by omega, by rw [Nat.mul_one] at h4; exact h4⟩
theorem Rw.mk' {p c n : Nat} {w : World} {zs : List Int} (hl : zs.length = n) (h1 : n ≤ c) (h2 : c ≤ maxLen) {cur : Array Value} (hg : w.heap[p]? = some (.cells cur 3 (0, 0))) (hs : cur.size = c) (ht : cur.toList.take n = zs.map (Value.int .i64)) : Rw p c w n zs :=
  ⟨by simp [hl], .inr ⟨p, c, cur, rfl, Nat.le_refl _, hg, h1, h2, by omega, by rw [Nat.mul_one]; exact ht⟩⟩
theorem Rw.of {base n : Nat} {w : World} {v : Value} {zs : List Int} (h : OwnI .i64 3 base w v n zs) (hn : 0 < n) : ∃ p c, v = .slice (some ⟨p, 0, none⟩) n c ∧ base ≤ p ∧ Rw p c w n zs := by
  have hl := OwnI.len h
  rcases h.2 with ⟨_, e⟩ | ⟨g, cap, cur, rfl, h0, hg, h1, h2, h3, h4⟩
  · omega
  · exact ⟨g, cap, rfl, h0, Rw.mk' hl h1 h2 hg (by omega) (by rw [Nat.mul_one] at h4; exact h4)⟩
section
variable {p c n : Nat} {w w' : World} {zs : List Int}
theorem Rw.len (h : Rw p c w n zs) : zs.length = n := h.here.1
theorem Rw.lt (h : Rw p c w n zs) : p < w.heap.size := by
  obtain ⟨_, _, _, cur, hg, _⟩ := h.here
  exact (Array.getElem?_eq_some_iff.1 hg).1
theorem Rw.keep (h : Rw p c w n zs) (hk : w'.heap[p]? = w.heap[p]?) : Rw p c w' n zs := by
  obtain ⟨h0, h1, h2, cur, hg, hs, ht⟩ := h.here
  exact Rw.mk' h0 h1 h2 (hk.trans hg) hs ht
theorem Rw.below (h : Rw p c w n zs) (hb : Below w.heap.size w w') : Rw p c w' n zs := h.keep (hb.block p h.lt)
theorem Rw.other (h : Rw p c w n zs) {q : Addr} (u : Value) (hne : p ≠ q.block) : Rw p c (w.setCell q u) n zs := h.keep (heap_setCell_other w q p u hne)
theorem Rw.on {q : Nat} (h : Rw p c w n zs) (ho : Only q w w') (hne : p ≠ q) : Rw p c w' n zs := h.keep (ho.block p h.lt hne)
theorem Rw.at {j : Nat} (h : Rw p c w n zs) (hj : j < n) : w.cell? ⟨p, j, none⟩ = some (.int .i64 (zs.getD j 0)) := by
  obtain ⟨h0, h1, _, cur, hg, hs, ht⟩ := h.here
  have hx : cur[j]? = some (.int .i64 (zs.getD j 0)) := by
    have e1 := congrArg (fun l => l[j]?) ht
    rw [List.getElem?_take_of_lt hj, getD_map_int zs .i64 j (by omega)] at e1
    rw [← e1, Array.getElem?_toList]
  simp [World.cell?, hg, hx]
theorem Rw.free (h : Rw p c w n zs) (j : Nat) : w.frozen? ⟨p, j, none⟩ = false := by
  obtain ⟨_, _, _, cur, hg, _⟩ := h.here
  exact frozen_of_row w p j _ _ hg
theorem Rw.set (h : Rw p c w n zs) (j : Nat) (v : Int) : Rw p c (w.setCell ⟨p, j, none⟩ (.int .i64 v)) n (zs.set j v) := by
  obtain ⟨h0, h1, h2, cur, hg, hs, ht⟩ := h.here
  refine Rw.mk' (by rw [List.length_set]; exact h0) h1 h2 (cur := cur.set! j (.int .i64 v)) (heap_setCell_same w p j _ _ _ hg) (by simpa using hs) ?_
  rw [List.map_set, ← ht]
  simp [List.take_set]
theorem Rw.own (h : Rw p c w n zs) (hwf : ∀ z ∈ zs, (Lit.int .i64 z).wf = true) : Own .i64 p (p + 1) w (some ⟨p, 0, none⟩) n zs := by
  obtain ⟨h0, h1, h2, cur, hg, hs, ht⟩ := h.here
  exact ⟨h0, hwf, fun _ => ⟨p, 0, rfl, Nat.le_refl _, by omega, fun j hj => ⟨by rw [Nat.zero_add]; exact h.at hj, h.free _⟩⟩⟩
theorem Rw.lies (h : Rw p c w n zs) (hwf : ∀ z ∈ zs, (Lit.int .i64 z).wf = true) {lo hi : Nat} (h0 : lo ≤ p) (h1 : p < hi) : Lies lo hi w (ints zs) (.slice (some ⟨p, 0, none⟩) n c) := by
  obtain ⟨k0, k1, k2, _⟩ := h.here
  have := Lies.of_row (h.own hwf).row k1 k2
  exact this.more h0 (by omega)
theorem Rw.take (h : Rw p c w n zs) {m : Nat} (hm : m ≤ n) : Rw p c w m (zs.take m) := by
  obtain ⟨h0, h1, h2, cur, hg, hs, ht⟩ := h.here
  refine Rw.mk' (by rw [List.length_take]; omega) (by omega) h2 hg hs ?_
  rw [List.map_take, ← ht, List.take_take, Nat.min_eq_left hm]
/-- Another block: no row of integers. -/
theorem Rw.apart {T b : Nat} {xs : List Value} (h : Rw p c w n zs) (hb : Blk T b xs w) (hT : T ≠ 3) : p ≠ b := fun e => by
  obtain ⟨_, _, _, cur, hg, _⟩ := h.here
  unfold Blk at hb
  subst e
  rw [hg] at hb
  injection hb with hb
  injection hb with _ hb
  exact hT hb.symm
theorem wpList_append_rw {P : Program} {ops : Array Oper} {rest : List Oper} {o : Oper} {a : Act} {Q : Exit → Act → World → Prop} (hgd : o.guard = none) (s x : Operand) (t : TypeId)
    (ho : o.op = .call { callee := .builtin .append, args := #[s, x], argTypes := #[t, t] })
    (i : TypeInfo) (z : Value) (bytes : Nat) (ht : P.underlying t = some (.slice 3)) (hi : P.info? 3 = some i) (hz : i.zero = some z)
    (hsize : i.size = 1) (hby : i.bytes = bytes) (hzs : z.cells.size = 1)
    (hs : a.eval s = .slice (some ⟨p, 0, none⟩) n c) (hown : Rw p c w n zs)
    (g d : Nat) (q : Int) (hx : a.eval x = .slice (some ⟨g, 0, none⟩) 1 d) (hr : w.cell? ⟨g, 0, none⟩ = some (.int .i64 q))
    (h63 : n + 1 ≤ maxLen) (hbytes : (n + 1) * bytes ≤ 140737488355328)
    (h : ∀ p' c' w', Rw p' c' w' (n + 1) (zs ++ [q]) → p ≤ p' → w.grownBy w' (some p) → wpList P ops Q rest (a.put o.dst (.slice (some ⟨p', 0, none⟩) (n + 1) c')) w') : wpList P ops Q (o :: rest) a w := by
  refine wpList_append_own w hgd s x t ho p 3 i z 1 bytes ht hi hz hsize hby hzs (by omega) _ n _ hs hown ⟨g, 0, none⟩ 1 d ([q].map (Value.int .i64)) hx rfl ?_ (ints_oneCell .i64 [q]) h63 hbytes (Nat.le_of_lt hown.lt) ?_
  · intro j u hu
    cases j with
    | zero => simp at hu; subst hu; exact hr
    | succ j => simp at hu
  · intro v' w' h2 h3 _
    obtain ⟨p', c', rfl, hp', hr'⟩ := Rw.of (base := p) (zs := zs ++ [q]) (by unfold OwnI; rw [List.map_append]; exact h2) (by omega)
    exact h p' c' w' hr' hp' h3
end
end Go.Proofs.Ytbohkohccnieiaa.Gen
