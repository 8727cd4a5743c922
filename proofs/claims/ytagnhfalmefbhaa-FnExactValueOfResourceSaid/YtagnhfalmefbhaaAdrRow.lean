/-
  A slice of addresses of the call's own: what it holds, one address more.
  Conditions: none.
-/
import Derived.Test.YtagnhfalmefbhaaPasted
namespace Go.Proofs.Ytagnhfalmefbhaa.Sites
open Go Go.RowKit Go.Proofs.Ytagnhfalmefbhaa.Mem Go.Proofs.Ytagnhfalmefbhaa.Gen Go.Proofs.Ytagnhfalmefbhaa.Adr Go.Proofs.Ytagnhfalmefbhaa.Res

def AdrRow (base : Nat) (w : World) (v : Value) (Q : List TAddress) : Prop := w.ownsRow base 29 3 v Q.length (Q.flatMap adrCells)
theorem flat_len : ∀ Q : List TAddress, (Q.flatMap adrCells).length = Q.length * 3
  | [] => rfl
  | A :: Q => by simp only [List.flatMap_cons, List.length_append, flat_len Q, List.length_cons]; simp [adrCells]; omega
theorem flat_at : ∀ (Q : List TAddress) (i x : Nat), i < Q.length → x < 3 → (Q.flatMap adrCells)[i * 3 + x]? = (adrCells (Q.getD i nAddress))[x]?
  | [], i, x, h, _ => absurd h (by simp)
  | A :: Q, 0, x, _, hx => by
    rw [List.flatMap_cons, Nat.zero_mul, Nat.zero_add, List.getElem?_append_left (by simpa [adrCells] using hx)]
    rfl
  | A :: Q, i + 1, x, h, hx => by
    rw [List.flatMap_cons, List.getElem?_append_right (by simp [adrCells]; omega), show (i + 1) * 3 + x - (adrCells A).length = i * 3 + x by simp [adrCells]; omega, flat_at Q i x (by simpa using h) hx]
    simp
theorem flat_snoc (Q : List TAddress) (A : TAddress) : (Q ++ [A]).flatMap adrCells = Q.flatMap adrCells ++ adrCells A := by simp
theorem adr_cell {A : TAddress} (h : WfA A) {lo hi : Nat} {w : World} : ∀ x, x < 3 → ∃ u, (adrCells A)[x]? = some u ∧ Lies lo hi w (A.c x) u ∧ ∀ S, Owns w (A.c x) u S
  | 0, _ => ⟨_, rfl, ⟨rfl, h.1⟩, fun _ => ⟨rfl, h.1⟩⟩
  | 1, _ => ⟨_, rfl, ⟨rfl, h.2.1⟩, fun _ => ⟨rfl, h.2.1⟩⟩
  | 2, _ => ⟨_, rfl, ⟨rfl, h.2.2⟩, fun _ => ⟨rfl, h.2.2⟩⟩
  | n + 3, hx => by omega
section
variable {base : Nat} {w w' : World} {v : Value} {Q : List TAddress} {A : TAddress}
theorem AdrRow.lt (h : AdrRow base w v Q) {t : Nat} (ht : v.ownBlock = some t) : base ≤ t ∧ t < w.heap.size := World.ownsRow.lt h t ht
theorem AdrRow.keep (h : AdrRow base w v Q) (hv : ∀ t, v.ownBlock = some t → w'.heap[t]? = w.heap[t]?) : AdrRow base w' v Q := by
  refine ⟨h.1, ?_⟩
  rcases h.2 with hn | ⟨g, cap, cur, rfl, hb, hg, rest⟩
  · exact .inl hn
  · exact .inr ⟨g, cap, cur, rfl, hb, by rw [hv g rfl]; exact hg, rest⟩
theorem AdrRow.below (h : AdrRow base w v Q) (hb : Below w.heap.size w w') : AdrRow base w' v Q := h.keep fun t ht => hb.block t (h.lt ht).2
theorem AdrRow.shape (h : AdrRow base w v Q) : ∃ a c, v = .slice a Q.length c ∧ Q.length ≤ c ∧ c ≤ maxLen := by
  rcases h.2 with ⟨rfl, h0⟩ | ⟨g, cap, cur, rfl, _, _, h1, h2, _⟩
  · exact ⟨none, 0, by rw [h0], by omega, Nat.zero_le _⟩
  · exact ⟨_, _, rfl, h1, h2⟩
theorem AdrRow.apart (h : AdrRow base w v Q) {T : TypeId} {b : Nat} {xs : List Value} (hq : Blk T b xs w) (hT : T ≠ 29) : ∀ t, v.ownBlock = some t → t ≠ b := fun t ht e => by
  subst e
  rcases h.2 with ⟨rfl, _⟩ | ⟨g, cap, cur, rfl, _, hg, _⟩
  · simp [Value.ownBlock] at ht
  · simp [Value.ownBlock] at ht
    subst ht
    unfold Blk at hq
    rw [hg] at hq
    injection hq with hq
    injection hq with _ e _
    exact hT e.symm
theorem AdrRow.owns (h : AdrRow base w v Q) (hwf : ∀ A ∈ Q, WfA A) : Owns w (dAddress Q) v (fun t => v.ownBlock = some t) := by
  rcases h.2 with ⟨rfl, h0⟩ | ⟨g, cap, cur, rfl, hb, hg, h1, h2, _⟩
  · exact ⟨none, 0, by rw [h0], Nat.le_of_eq h0, Nat.zero_le _, fun hp => absurd hp (by omega)⟩
  · refine ⟨_, cap, rfl, h1, h2, fun _ => ⟨g, 0, fun _ _ _ => False, rfl, rfl, ⟨fun _ _ _ _ _ h => h.elim, fun _ _ _ _ _ _ _ _ _ h => h.elim⟩, fun i hi x hx => ?_⟩⟩
    have hmem : Q.getD i nAddress ∈ Q := by rw [List.getD_eq_getElem?_getD, List.getElem?_eq_getElem hi]; exact List.getElem_mem _
    obtain ⟨u, e1, _, e3⟩ := adr_cell (hwf _ hmem) (lo := 0) (hi := 0) (w := w) x hx
    have e4 := flat_at Q i x hi hx
    rw [e1] at e4
    rw [Nat.zero_add]
    exact ⟨World.ownsRow.frozenAt h _, u, by rw [World.ownsRow.cellAt h _ (by have := (List.getElem?_eq_some_iff.1 e4).1; rwa [flat_len] at this)]; exact e4, e3 _⟩
theorem AdrRow.lies (h : AdrRow base w v Q) (hwf : ∀ A ∈ Q, WfA A) : Lies 0 w.heap.size w (dAddress Q) v := Owns.lies (h.owns hwf) fun _ ht => ⟨Nat.zero_le _, (h.lt ht).2⟩
theorem AdrRow.one (A : TAddress) {base : Nat} (w : World) (hb : base ≤ w.heap.size) : AdrRow base (w.alloc (.cells (adrCells A).toArray 29)) (.slice (some ⟨w.heap.size, 0, none⟩) 1 1) [A] := by
  have := World.ownsRow_lit (e := 29) (base := base) (size := 3) w (adrCells A).toArray 1 hb (by unfold maxLen; omega) (by simp [adrCells])
  unfold AdrRow
  simpa using this
theorem AdrRow.void (base : Nat) (w : World) : AdrRow base w (.slice none 0 0) [] := World.ownsRow_nil _ _ _ _
theorem AdrRow.append {b2 c : Nat} (h : AdrRow base w v Q) (hbw : base ≤ w.heap.size) (hq : Blk 29 b2 (adrCells A) w) (hn : Q.length ≤ 1000) (ty : TypeId) :
    ∃ v' w', (Builtin.append_ #[36, 36] ty #[v, .slice (some ⟨b2, 0, none⟩) 1 c]).run Try.prog w = .ok v' w' ∧ AdrRow base w' v' (Q ++ [A]) ∧ w.grownBy w' v.ownBlock := by
  obtain ⟨i0, hi0, hz0, hz1, hz2⟩ := info_parts infoAddress
  obtain ⟨v', w', hr, h4, h5, _⟩ := run_append_own_at (P := Try.prog) (w := w) base 36 ty 29 i0 _ 3 24 Try.underlying36 hi0 hz0 hz1 hz2 rfl (by omega) v Q.length _ h ⟨b2, 0, none⟩ 1 c (adrCells A) rfl (fun j u hu => by rw [add_pl, Nat.zero_add]; exact hq.at hu) (by simp [adrCells, Value.oneCell']) (by unfold maxLen; omega) (by omega) hbw
  exact ⟨v', w', hr, by unfold AdrRow; rw [flat_snoc, List.length_append]; exact h4, h5⟩
end
end Go.Proofs.Ytagnhfalmefbhaa.Sites
