/-
  A slice of structs that a call builds by append beside a cursor that lies among its blocks.
  Conditions: none; nothing of the program stands here.
-/
import Derived.Test.YtagnhfalmefbhaaData
namespace Go.Proofs.Ytagnhfalmefbhaa.Gen
open Go Go.RowKit Go.Proofs.Ytagnhfalmefbhaa.Mem

/-- As Buf; block p is no part of it. -/
def BufA (p : Nat) (T : TypeId) (base hi k : Nat) (w : World) (v : Value) (n : Nat) (f : Nat → Nat → Dat) : Prop := ∃ xs G, BufG T base hi k w v n f xs G ∧ (∀ i x, i < n → x < k → ¬ G i x p) ∧ v.ownBlock ≠ some p

section
variable {T : TypeId} {p base hi k n : Nat} {w w' : World} {v : Value} {f : Nat → Nat → Dat}
theorem BufA.of_buf (h : Buf T base hi k w v n f) (hp : hi ≤ p ∨ p < base) : BufA p T base hi k w v n f := by
  obtain ⟨xs, G, h⟩ := h
  refine ⟨xs, G, h, fun i x hi' hx hG => ?_, fun e => ?_⟩
  · have := (h.bnd i x p hi' hx hG).1; omega
  · have h1 := h.lt p e
    have h2 := (h.row.lt p e).1
    omega
theorem BufA.buf (h : BufA p T base hi k w v n f) : Buf T base hi k w v n f := by
  obtain ⟨xs, G, h, _⟩ := h
  exact ⟨xs, G, h⟩
theorem BufA.keep (h : BufA p T base hi k w v n f) (hk : ∀ t, t < w.heap.size → base ≤ t → t < hi → t ≠ p → w'.heap[t]? = w.heap[t]?) : BufA p T base hi k w' v n f := by
  obtain ⟨xs, G, h, hg, hv⟩ := h
  refine ⟨xs, G, ⟨⟨h.row.1, ?_⟩, h.lt, fun i x hi' hx => ?_, h.bnd, h.dis⟩, hg, hv⟩
  · rcases h.row.2 with hn | ⟨g, cap, cur, rfl, hb, hg', rest⟩
    · exact .inl hn
    · refine .inr ⟨g, cap, cur, rfl, hb, ?_, rest⟩
      rw [hk g (Array.getElem?_eq_some_iff.1 hg').1 hb (h.lt g rfl) (fun e => hv (by rw [← e]; rfl))]
      exact hg'
  · obtain ⟨u, h1, h2⟩ := h.own i x hi' hx
    exact ⟨u, h1, h2.keep fun t ht hG => hk t ht (h.bnd i x t hi' hx hG).1.1 (h.bnd i x t hi' hx hG).1.2 fun e => hg i x hi' hx (by rw [← e]; exact hG)⟩
theorem BufA.below (h : BufA p T base hi k w v n f) (hb : Below w.heap.size w w') : BufA p T base hi k w' v n f := h.keep fun t ht _ _ _ => hb.block t ht
theorem BufA.congr {g : Nat → Nat → Dat} (h : BufA p T base hi k w v n f) (e : ∀ i, i < n → ∀ x, x < k → f i x = g i x) : BufA p T base hi k w v n g := by
  obtain ⟨xs, G, h, hg, hv⟩ := h
  exact ⟨xs, G, ⟨h.row, h.lt, fun i x hi hx => by rw [← e i hi x hx]; exact h.own i x hi hx, h.bnd, h.dis⟩, hg, hv⟩

theorem BufG.join {M : Nat} {D : Nat → Dat} {g : Nat → Nat → Prop} {us : List Value} {xs : List Value} {G : Nat → Nat → Nat → Prop} {v' : Value} (h : BufG T base M k w v n f xs G) (hbM : base ≤ M) (hM : M ≤ w.heap.size) (hF : Fresh M w.heap.size k g D us w)
    (hr : w'.ownsRow base T k v' (n + 1) (xs ++ us)) (hg : w.grownBy w' v.ownBlock) (hat : v'.ownBlock = v.ownBlock ∨ v'.ownBlock = some w.heap.size) : BufG T base w'.heap.size k w' v' (n + 1) (snoc n f D) (xs ++ us) (fun i x => if i < n then G i x else g x) := by
  have hsz := hg.size
  have hxl : xs.length = n * k := h.row.1
  have hne : ∀ t, t < w.heap.size → v.ownBlock ≠ some t → v'.ownBlock ≠ some t := fun t ht hv => by
    rcases hat with e | e
    · rw [e]; exact hv
    · rw [e]; intro e2; injection e2 with e2; omega
  have hold : ∀ i x t, i < n → x < k → G i x t → (base ≤ t ∧ t < M) ∧ v.ownBlock ≠ some t := h.bnd
  have hnew : ∀ x t, x < k → g x t → (M ≤ t ∧ t < w.heap.size) ∧ v.ownBlock ≠ some t := fun x t hx ht => by
    have h1 := hF.sub x t hx ht
    refine ⟨h1, fun e => ?_⟩
    have := h.lt t e
    omega
  refine ⟨hr, fun b hb => (hr.lt b hb).2, fun i x hi' hx => ?_, fun i x t hi' hx hG => ?_, fun i x j y t hi' hx hj hy hG hG' => ?_⟩
  · by_cases he : i < n
    · obtain ⟨u, h1, h2⟩ := h.own i x he hx
      have hlt : i * k + x < xs.length := (List.getElem?_eq_some_iff.1 h1).1
      simp only [snoc, if_pos he]
      refine ⟨u, by rw [List.getElem?_append_left hlt]; exact h1, h2.keep fun t ht hG => hg.block t ht fun e => (hold i x t he hx hG).2 e.symm⟩
    · obtain rfl : i = n := by omega
      obtain ⟨u, h1, h2⟩ := hF.own x hx
      simp only [snoc, if_neg he]
      refine ⟨u, by rw [List.getElem?_append_right (by omega), hxl, Nat.add_sub_cancel_left]; exact h1, h2.keep fun t ht hG => hg.block t ht fun e => (hnew x t hx hG).2 e.symm⟩
  · by_cases he : i < n
    · simp only [if_pos he] at hG
      have := hold i x t he hx hG
      exact ⟨⟨this.1.1, by omega⟩, hne t (by omega) this.2⟩
    · simp only [if_neg he] at hG
      have := hnew x t hx hG
      exact ⟨⟨by omega, by omega⟩, hne t this.1.2 this.2⟩
  · by_cases he : i < n
    · simp only [if_pos he] at hG
      by_cases hj' : j < n
      · simp only [if_pos hj'] at hG'
        exact h.dis i x j y t he hx hj' hy hG hG'
      · simp only [if_neg hj'] at hG'
        have a1 := (hold i x t he hx hG).1
        have a2 := (hnew y t hy hG').1
        omega
    · simp only [if_neg he] at hG
      by_cases hj' : j < n
      · simp only [if_pos hj'] at hG'
        have a1 := (hold j y t hj' hy hG').1
        have a2 := (hnew x t hx hG).1
        omega
      · simp only [if_neg hj'] at hG'
        exact ⟨by omega, hF.dis x y t hx hy hG hG'⟩
end

section
variable {P : Program} {T : TypeId} {p base M k n b2 c : Nat} {w : World} {v : Value} {f : Nat → Nat → Dat} {D : Nat → Dat} {g : Nat → Nat → Prop} {us : List Value}
theorem wpList_append_elA {ops : Array Oper} {rest : List Oper} {o : Oper} {a : Act} {Q : Exit → Act → World → Prop} (hgd : o.guard = none) (s x : Operand) (t : TypeId)
    (ho : o.op = .call { callee := .builtin .append, args := #[s, x], argTypes := #[t, t] })
    (i : TypeInfo) (z : Value) (bytes : Nat) (ht : P.underlying t = some (.slice T)) (hi : P.info? T = some i) (hz : i.zero = some z) (hsize : i.size = k) (hby : i.bytes = bytes) (hzs : z.cells.size = k) (hk : 0 < k) (hb128 : bytes ≤ 128)
    (h : BufA p T base M k w v n f) (hp : p < w.heap.size) (hgp : ∀ x, x < k → ¬ g x p) (hbM : base ≤ M) (hM : M ≤ w.heap.size) (hF : Fresh M w.heap.size k g D us w) (hc : ∀ j u, us[j]? = some u → w.cell? ⟨b2, j, none⟩ = some u) (h1 : ∀ u ∈ us, u.oneCell' = true) (hn : n + 1 ≤ 1048576)
    (hs : a.eval s = v) (hx : a.eval x = .slice (some ⟨b2, 0, none⟩) 1 c)
    (hK : ∀ v' w', BufA p T base w'.heap.size k w' v' (n + 1) (snoc n f D) → Below base w w' → (∀ t, t < w.heap.size → v.ownBlock ≠ some t → w'.heap[t]? = w.heap[t]?) → w'.heap[p]? = w.heap[p]? → wpList P ops Q rest (a.put o.dst v') w') :
    wpList P ops Q (o :: rest) a w := by
  refine wpList_plain hgd fun K hK' => ?_
  obtain ⟨xs, G, h, hG, hv⟩ := h
  have hb : (n + 1) * bytes ≤ 140737488355328 := by
    have := Nat.mul_le_mul hn hb128
    omega
  obtain ⟨v', w', hr, h2, h3, _, h5⟩ := run_append_own_at (P := P) w base t o.type T i z k bytes ht hi hz hsize hby hzs hk v n xs h.row ⟨b2, 0, none⟩ 1 c us (by rw [hF.len]; omega) (fun j u hu => by rw [add_pl, Nat.zero_add]; exact hc j u hu) h1 (by unfold maxLen; omega) hb (by omega)
  have hJ : BufA p T base w'.heap.size k w' v' (n + 1) (snoc n f D) := by
    refine ⟨_, _, BufG.join h hbM hM hF h2 h3 h5, fun j x hj hx hGx => ?_, fun e => ?_⟩
    · by_cases he : j < n
      · simp only [if_pos he] at hGx; exact hG j x he hx hGx
      · simp only [if_neg he] at hGx; exact hgp x hx hGx
    · rcases h5 with e5 | e5
      · exact hv (by rw [← e5]; exact e)
      · rw [e5] at e; injection e with e; omega
  have h4 : ∀ t, t < w.heap.size → v.ownBlock ≠ some t → w'.heap[t]? = w.heap[t]? := fun t ht hne => h3.block t ht fun e => hne e.symm
  unfold Oper.wp execOp
  simp only [ho, resolve, invoke, builtin, Sem.run_bind, Sem.run_pure, Result.andThen_ok, List.map_toArray, List.map_cons, List.map_nil, hs, hx, hr]
  exact hK' _ _ (hK v' w' hJ ((Below.refl _ _).grown h3 (by omega) (fun q hq => (h.row.lt q hq).1)) h4 (h4 p hp hv))
end
end Go.Proofs.Ytagnhfalmefbhaa.Gen
