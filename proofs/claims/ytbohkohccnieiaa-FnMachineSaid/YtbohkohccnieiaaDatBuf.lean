/-
  A slice of structs that a call builds by append, in the words for data of any depth.
  Conditions: none; nothing of the program stands here.
-/
import Derived.Test.YtbohkohccnieiaaDatFill
import Derived.Maps.AppendAt
import Derived.Laws.OwnMore
import Derived.WalkKit
import Derived.OwnWalk
namespace Go.Proofs.Ytbohkohccnieiaa.Gen
open Go Go.RowKit Go.Proofs.Ytbohkohccnieiaa.Mem

structure BufG (T : TypeId) (base hi k : Nat) (w : World) (v : Value) (n : Nat) (f : Nat → Nat → Dat) (xs : List Value) (G : Nat → Nat → Nat → Prop) : Prop where
  row : w.ownsRow base T k v n xs
  lt : ∀ b, v.ownBlock = some b → b < hi
  own : ∀ i x, i < n → x < k → ∃ u, xs[i * k + x]? = some u ∧ Owns w (f i x) u (G i x)
  bnd : ∀ i x t, i < n → x < k → G i x t → (base ≤ t ∧ t < hi) ∧ v.ownBlock ≠ some t
  dis : ∀ i x j y t, i < n → x < k → j < n → y < k → G i x t → G j y t → i = j ∧ x = y
/-- The slice v of n elements of k cells, with room for more: its cells are its own, what it leads to lies in blocks of its own, from base on and below hi. -/
def Buf (T : TypeId) (base hi k : Nat) (w : World) (v : Value) (n : Nat) (f : Nat → Nat → Dat) : Prop := ∃ xs G, BufG T base hi k w v n f xs G

section
variable {T : TypeId} {base hi k n : Nat} {w w' : World} {v : Value} {f : Nat → Nat → Dat}
theorem Buf.nil (T : TypeId) (base hi k : Nat) (w : World) (f : Nat → Nat → Dat) : Buf T base hi k w (.slice none 0 0) 0 f :=
  ⟨[], fun _ _ _ => False, World.ownsRow_nil _ _ _ _, fun b h => by simp [Value.ownBlock] at h, fun _ _ h => absurd h (by omega), fun _ _ _ h => absurd h (by omega), fun _ _ _ _ _ h => absurd h (by omega)⟩
theorem Buf.made (T : TypeId) (base k : Nat) (w : World) (f : Nat → Nat → Dat) (hb : base ≤ w.heap.size) : Buf T base (w.heap.size + 1) k (w.alloc (.cells #[] T)) (.slice (some ⟨w.heap.size, 0, none⟩) 0 0) 0 f :=
  ⟨[], fun _ _ _ => False, by simpa using World.ownsRow_lit (e := T) (base := base) (size := k) w #[] 0 hb (by simp) (by simp), fun b h => by simp [Value.ownBlock] at h; omega, fun _ _ h => absurd h (by omega), fun _ _ _ h => absurd h (by omega), fun _ _ _ _ _ h => absurd h (by omega)⟩
theorem Buf.keep (h : Buf T base hi k w v n f) (hk : ∀ t, t < w.heap.size → base ≤ t → t < hi → w'.heap[t]? = w.heap[t]?) : Buf T base hi k w' v n f := by
  obtain ⟨xs, G, h⟩ := h
  refine ⟨xs, G, ⟨h.row.1, ?_⟩, h.lt, fun i x hi' hx => ?_, h.bnd, h.dis⟩
  · rcases h.row.2 with hn | ⟨g, cap, cur, rfl, hb, hg, rest⟩
    · exact .inl hn
    · refine .inr ⟨g, cap, cur, rfl, hb, ?_, rest⟩
      rw [hk g (Array.getElem?_eq_some_iff.1 hg).1 hb (h.lt g rfl)]
      exact hg
  · obtain ⟨u, h1, h2⟩ := h.own i x hi' hx
    exact ⟨u, h1, h2.keep fun t ht hG => hk t ht (h.bnd i x t hi' hx hG).1.1 (h.bnd i x t hi' hx hG).1.2⟩
theorem Buf.below (h : Buf T base hi k w v n f) (hb : Below w.heap.size w w') : Buf T base hi k w' v n f := h.keep fun t ht _ _ => hb.block t ht
theorem Buf.under {B : Nat} (h : Buf T base hi k w v n f) (hb : Below B w w') (hB : hi ≤ B) : Buf T base hi k w' v n f := h.keep fun t _ _ ht => hb.block t (by omega)
theorem Buf.zone {lo' hi' : Nat} (h : Buf T base hi k w v n f) (hz : Zone lo' hi' w w') (hd : hi ≤ lo' ∨ hi' ≤ base) : Buf T base hi k w' v n f := h.keep fun t h0 h1 h2 => hz.block t h0 (by omega)
theorem Buf.drewN (h : Buf T base hi k w v n f) (m : Nat) : Buf T base hi k (w.drewN m) v n f := h.keep fun _ _ _ _ => rfl
theorem Buf.more {hi' : Nat} (h : Buf T base hi k w v n f) (h2 : hi ≤ hi') : Buf T base hi' k w v n f := by
  obtain ⟨xs, G, h⟩ := h
  exact ⟨xs, G, h.row, fun b hb => Nat.lt_of_lt_of_le (h.lt b hb) h2, h.own, fun i x t a b c => ⟨⟨(h.bnd i x t a b c).1.1, Nat.lt_of_lt_of_le (h.bnd i x t a b c).1.2 h2⟩, (h.bnd i x t a b c).2⟩, h.dis⟩
theorem Buf.congr {g : Nat → Nat → Dat} (h : Buf T base hi k w v n f) (e : ∀ i, i < n → ∀ x, x < k → f i x = g i x) : Buf T base hi k w v n g := by
  obtain ⟨xs, G, h⟩ := h
  exact ⟨xs, G, h.row, h.lt, fun i x hi hx => by rw [← e i hi x hx]; exact h.own i x hi hx, h.bnd, h.dis⟩
theorem Buf.owns (h : Buf T base hi k w v n f) : OwnD base hi w (.row k n f) v := by
  obtain ⟨xs, G, h⟩ := h
  rcases h.row.2 with ⟨rfl, rfl⟩ | ⟨g, cap, cur, rfl, hb, hg, hnc, hcm, _⟩
  · exact ⟨none, 0, rfl, Nat.le_refl _, Nat.zero_le _, fun h0 => absurd h0 (by omega)⟩
  · refine ⟨_, cap, rfl, hnc, hcm, fun _ => ⟨g, 0, G, rfl, ⟨hb, h.lt g rfl⟩, ⟨fun i x t hi' hx hG => ⟨⟨(h.bnd i x t hi' hx hG).1.1, (h.bnd i x t hi' hx hG).1.2⟩, fun e => (h.bnd i x t hi' hx hG).2 (by simp [Value.ownBlock, e])⟩, h.dis⟩, fun i hi' x hx => ?_⟩⟩
    obtain ⟨u, h1, h2⟩ := h.own i x hi' hx
    have hlt : i * k + x < xs.length := (List.getElem?_eq_some_iff.1 h1).1
    rw [Nat.zero_add]
    exact ⟨h.row.frozenAt _, u, by rw [h.row.cellAt _ (by rw [← h.row.1]; exact hlt)]; exact h1, h2⟩
theorem Buf.shape (h : Buf T base hi k w v n f) : ∃ A c, v = .slice A n c ∧ n ≤ c ∧ c ≤ maxLen := by
  obtain ⟨A, c, e, h1, h2, _⟩ := h.owns
  exact ⟨A, c, e, h1, h2⟩

/-- One element more. -/
def snoc (n : Nat) (f : Nat → Nat → Dat) (D : Nat → Dat) : Nat → Nat → Dat := fun i => if i < n then f i else D
theorem Buf.join {M : Nat} {D : Nat → Dat} {g : Nat → Nat → Prop} {us : List Value} {xs : List Value} {G : Nat → Nat → Nat → Prop} {v' : Value} (h : BufG T base M k w v n f xs G) (hbM : base ≤ M) (hM : M ≤ w.heap.size) (hF : Fresh M w.heap.size k g D us w)
    (hr : w'.ownsRow base T k v' (n + 1) (xs ++ us)) (hg : w.grownBy w' v.ownBlock) (hat : v'.ownBlock = v.ownBlock ∨ v'.ownBlock = some w.heap.size) : Buf T base w'.heap.size k w' v' (n + 1) (snoc n f D) := by
  have hsz := hg.size
  have hxl : xs.length = n * k := h.row.1
  have hne : ∀ t, t < w.heap.size → v.ownBlock ≠ some t → v'.ownBlock ≠ some t := fun t ht hv => by
    rcases hat with e | e
    · rw [e]; exact hv
    · rw [e]; intro e2; injection e2 with e2; omega
  have hold : ∀ i x t, i < n → x < k → G i x t → (base ≤ t ∧ t < M) ∧ v.ownBlock ≠ some t := h.bnd
  have hnew : ∀ x t, x < k → g x t → (M ≤ t ∧ t < w.heap.size) ∧ v.ownBlock ≠ some t := fun x t hx ht => by
    have h1 := hF.sub x t hx ht
    refine ⟨h1, fun e => ?_⟩
    have := h.lt t e
    omega
  refine ⟨xs ++ us, fun i x => if i < n then G i x else g x, hr, fun b hb => (hr.lt b hb).2, fun i x hi' hx => ?_, fun i x t hi' hx hG => ?_, fun i x j y t hi' hx hj hy hG hG' => ?_⟩
  · by_cases he : i < n
    · obtain ⟨u, h1, h2⟩ := h.own i x he hx
      have hlt : i * k + x < xs.length := (List.getElem?_eq_some_iff.1 h1).1
      simp only [snoc, if_pos he]
      refine ⟨u, by rw [List.getElem?_append_left hlt]; exact h1, h2.keep fun t ht hG => hg.block t ht fun e => (hold i x t he hx hG).2 e.symm⟩
    · obtain rfl : i = n := by omega
      obtain ⟨u, h1, h2⟩ := hF.own x hx
      simp only [snoc, if_neg he]
      refine ⟨u, by rw [List.getElem?_append_right (by omega), hxl, Nat.add_sub_cancel_left]; exact h1, h2.keep fun t ht hG => hg.block t ht fun e => (hnew x t hx hG).2 e.symm⟩
  · by_cases he : i < n
    · simp only [if_pos he] at hG
      have := hold i x t he hx hG
      exact ⟨⟨this.1.1, by omega⟩, hne t (by omega) this.2⟩
    · simp only [if_neg he] at hG
      have := hnew x t hx hG
      exact ⟨⟨by omega, by omega⟩, hne t this.1.2 this.2⟩
  · by_cases he : i < n
    · simp only [if_pos he] at hG
      by_cases hj' : j < n
      · simp only [if_pos hj'] at hG'
        exact h.dis i x j y t he hx hj' hy hG hG'
      · simp only [if_neg hj'] at hG'
        have a1 := (hold i x t he hx hG).1
        have a2 := (hnew y t hy hG').1
        omega
    · simp only [if_neg he] at hG
      by_cases hj' : j < n
      · simp only [if_pos hj'] at hG'
        have a1 := (hold j y t hj' hy hG').1
        have a2 := (hnew x t hx hG).1
        omega
      · simp only [if_neg hj'] at hG'
        exact ⟨by omega, hF.dis x y t hx hy hG hG'⟩
end

section
variable {P : Program} {T : TypeId} {base M k n b2 c : Nat} {w : World} {v : Value} {f : Nat → Nat → Dat} {D : Nat → Dat} {g : Nat → Nat → Prop} {us : List Value}
theorem run_append_el (t ty : TypeId) (i : TypeInfo) (z : Value) (bytes : Nat) (ht : P.underlying t = some (.slice T)) (hi : P.info? T = some i) (hz : i.zero = some z) (hsize : i.size = k) (hby : i.bytes = bytes) (hzs : z.cells.size = k) (hk : 0 < k) (hb128 : bytes ≤ 128)
    (h : Buf T base M k w v n f) (hbM : base ≤ M) (hM : M ≤ w.heap.size) (hF : Fresh M w.heap.size k g D us w) (hc : ∀ j u, us[j]? = some u → w.cell? ⟨b2, j, none⟩ = some u) (h1 : ∀ u ∈ us, u.oneCell' = true) (hn : n + 1 ≤ 1048576) :
    ∃ v' w', (Builtin.append_ #[t, t] ty #[v, .slice (some ⟨b2, 0, none⟩) 1 c]).run P w = .ok v' w' ∧ Buf T base w'.heap.size k w' v' (n + 1) (snoc n f D) ∧ Below base w w' ∧ (∀ t, t < w.heap.size → v.ownBlock ≠ some t → w'.heap[t]? = w.heap[t]?) := by
  obtain ⟨xs, G, h⟩ := h
  have hb : (n + 1) * bytes ≤ 140737488355328 := by
    have := Nat.mul_le_mul hn hb128
    omega
  obtain ⟨v', w', hr, h2, h3, _, h5⟩ := run_append_own_at (P := P) w base t ty T i z k bytes ht hi hz hsize hby hzs hk v n xs h.row ⟨b2, 0, none⟩ 1 c us (by rw [hF.len]; omega) (fun j u hu => by rw [add_pl, Nat.zero_add]; exact hc j u hu) h1 (by unfold maxLen; omega) hb (by omega)
  exact ⟨v', w', hr, Buf.join h hbM hM hF h2 h3 h5, (Below.refl _ _).grown h3 (by omega) (fun q hq => (h.row.lt q hq).1), fun t ht hne => h3.block t ht fun e => hne e.symm⟩
theorem wpList_append_el {ops : Array Oper} {rest : List Oper} {o : Oper} {a : Act} {Q : Exit → Act → World → Prop} (hgd : o.guard = none) (s x : Operand) (t : TypeId)
    (ho : o.op = .call { callee := .builtin .append, args := #[s, x], argTypes := #[t, t] })
    (i : TypeInfo) (z : Value) (bytes : Nat) (ht : P.underlying t = some (.slice T)) (hi : P.info? T = some i) (hz : i.zero = some z) (hsize : i.size = k) (hby : i.bytes = bytes) (hzs : z.cells.size = k) (hk : 0 < k) (hb128 : bytes ≤ 128)
    (h : Buf T base M k w v n f) (hbM : base ≤ M) (hM : M ≤ w.heap.size) (hF : Fresh M w.heap.size k g D us w) (hc : ∀ j u, us[j]? = some u → w.cell? ⟨b2, j, none⟩ = some u) (h1 : ∀ u ∈ us, u.oneCell' = true) (hn : n + 1 ≤ 1048576)
    (hs : a.eval s = v) (hx : a.eval x = .slice (some ⟨b2, 0, none⟩) 1 c)
    (hK : ∀ v' w', Buf T base w'.heap.size k w' v' (n + 1) (snoc n f D) → Below base w w' → (∀ t, t < w.heap.size → v.ownBlock ≠ some t → w'.heap[t]? = w.heap[t]?) → wpList P ops Q rest (a.put o.dst v') w') :
    wpList P ops Q (o :: rest) a w := by
  refine wpList_plain hgd fun K hK' => ?_
  obtain ⟨v', w', hr, h2, h3, h4⟩ := run_append_el (P := P) (c := c) t o.type i z bytes ht hi hz hsize hby hzs hk hb128 h hbM hM hF hc h1 hn
  unfold Oper.wp execOp
  simp only [ho, resolve, invoke, builtin, Sem.run_bind, Sem.run_pure, Result.andThen_ok, List.map_toArray, List.map_cons, List.map_nil, hs, hx, hr]
  exact hK' _ _ (hK v' w' h2 h3 h4)
theorem step_append_el {ops : Array Oper} {o : Oper} {a : Act} {K : Act → World → Prop} {Q : Exit → Act → World → Prop} {E : Prop} (hgd : o.guard = none) (s x : Operand) (t : TypeId)
    (ho : o.op = .call { callee := .builtin .append, args := #[s, x], argTypes := #[t, t] })
    (i : TypeInfo) (z : Value) (bytes : Nat) (ht : P.underlying t = some (.slice T)) (hi : P.info? T = some i) (hz : i.zero = some z) (hsize : i.size = k) (hby : i.bytes = bytes) (hzs : z.cells.size = k) (hk : 0 < k) (hb128 : bytes ≤ 128)
    (h : Buf T base M k w v n f) (hbM : base ≤ M) (hM : M ≤ w.heap.size) (hF : Fresh M w.heap.size k g D us w) (hc : ∀ j u, us[j]? = some u → w.cell? ⟨b2, j, none⟩ = some u) (h1 : ∀ u ∈ us, u.oneCell' = true) (hn : n + 1 ≤ 1048576)
    (hs : a.eval s = v) (hx : a.eval x = .slice (some ⟨b2, 0, none⟩) 1 c)
    (hK : ∀ v' w', Buf T base w'.heap.size k w' v' (n + 1) (snoc n f D) → Below base w w' → (∀ t, t < w.heap.size → v.ownBlock ≠ some t → w'.heap[t]? = w.heap[t]?) → K (a.put o.dst v') w') :
    if Region.wanted o (yielded ops a.tmps) = true then Oper.wp P o a w K Q else E := by
  have hw : Region.wanted o (yielded ops a.tmps) = true := by simp [Region.wanted, hgd]
  rw [if_pos hw]
  obtain ⟨v', w', hr, h2, h3, h4⟩ := run_append_el (P := P) (c := c) t o.type i z bytes ht hi hz hsize hby hzs hk hb128 h hbM hM hF hc h1 hn
  unfold Oper.wp execOp
  simp only [ho, resolve, invoke, builtin, Sem.run_bind, Sem.run_pure, Result.andThen_ok, List.map_toArray, List.map_cons, List.map_nil, hs, hx, hr]
  exact hK v' w' h2 h3 h4
end
end Go.Proofs.Ytbohkohccnieiaa.Gen
