/-
  A row of cells of a call's own while single cells of it are written: what it holds can be read.
  Conditions: none; nothing of the program stands here.
-/
import Derived.Test.YtagnhfalmefbhaaData
import Derived.Test.YtagnhfalmefbhaaBlk
namespace Go.Proofs.Ytagnhfalmefbhaa.Gen
open Go Go.RowKit Go.Proofs.Ytagnhfalmefbhaa.Mem

/-- What u leads to can be read, whatever happens to the block b. -/
def Stay (lo hi b : Nat) (w : World) (D : Dat) (u : Value) : Prop := ∀ w' : World, (∀ t, t ≠ b → lo ≤ t → t < w.heap.size → w'.heap[t]? = w.heap[t]?) → Lies lo hi w' D u
theorem Stay.int {lo hi b : Nat} {w : World} {z : Int} (h : (Lit.int .i64 z).wf = true) : Stay lo hi b w (.int z) (.int .i64 z) := fun _ _ => ⟨rfl, h⟩
theorem Stay.owns {lo hi b : Nat} {w : World} {D : Dat} {u : Value} {S : Nat → Prop} (h : Owns w D u S) (hS : ∀ t, S t → lo ≤ t ∧ t < hi) (hb : ¬ S b) : Stay lo hi b w D u := fun w' hk =>
  Owns.lies (Owns.keep h fun t ht hSt => hk t (fun e => hb (by rw [← e]; exact hSt)) (hS t hSt).1 ht) hS
theorem Stay.keep {lo hi b : Nat} {w w1 : World} {D : Dat} {u : Value} (h : Stay lo hi b w D u) (hk : ∀ t, t ≠ b → lo ≤ t → t < w.heap.size → w1.heap[t]? = w.heap[t]?) (hs : w.heap.size ≤ w1.heap.size) : Stay lo hi b w1 D u := fun w' hk' =>
  h w' fun t h1 h2 h3 => (hk' t h1 h2 (by omega)).trans (hk t h1 h2 h3)
/-- The cells of a row of n elements of k cells each. -/
structure Sheet (lo hi b off n k : Nat) (w : World) (f : Nat → Nat → Dat) : Prop where
  le : lo ≤ b
  bd : b < hi
  lt : b < w.heap.size
  here : ∀ i, i < n → ∀ x, x < k → w.frozen? ⟨b, off + i * k + x, none⟩ = false ∧ ∃ u, w.cell? ⟨b, off + i * k + x, none⟩ = some u ∧ Stay lo hi b w (f i x) u
theorem Sheet.of_owns {lo hi n k c : Nat} {w : World} {f : Nat → Nat → Dat} {a : Option Addr} {S : Nat → Prop} (h : Owns w (.row k n f) (.slice a n c) S) (hn : 0 < n) (hk : 0 < k) (hS : ∀ t, S t → lo ≤ t ∧ t < hi) : ∃ b off, a = some ⟨b, off, none⟩ ∧ Sheet lo hi b off n k w f := by
  obtain ⟨A, c', e, h1, h2, h3⟩ := h
  injection e with e1 _ _
  subst e1
  obtain ⟨b, off, G, rfl, hb, ap, q⟩ := h3 hn
  refine ⟨b, off, rfl, (hS b hb).1, (hS b hb).2, ?_, fun i hi x hx => ?_⟩
  · obtain ⟨_, u, g, _⟩ := q 0 hn 0 hk
    exact cell_lt g
  · obtain ⟨g0, u, g1, g2⟩ := q i hi x hx
    exact ⟨g0, u, g1, Stay.owns g2 (fun t hG => hS t (ap.sub i x t hi hx hG).1) (fun hG => (ap.sub i x b hi hx hG).2 rfl)⟩
def putD (f : Nat → Nat → Dat) (i x : Nat) (D : Dat) : Nat → Nat → Dat := fun j y => if j = i ∧ y = x then D else f j y
theorem off_one {k i j x y : Nat} (hx : x < k) (hy : y < k) (h : i * k + x = j * k + y) : i = j ∧ x = y := by
  rcases Nat.lt_trichotomy i j with h1 | h1 | h1
  · have := Nat.mul_le_mul_right k (show i + 1 ≤ j by omega)
    rw [Nat.add_mul] at this
    omega
  · subst h1; omega
  · have := Nat.mul_le_mul_right k (show j + 1 ≤ i by omega)
    rw [Nat.add_mul] at this
    omega
section
variable {lo hi b off n k : Nat} {w w1 : World} {f : Nat → Nat → Dat}
theorem Sheet.put (h : Sheet lo hi b off n k w f) {i x : Nat} (hi' : i < n) (hx : x < k) {u : Value} {D : Dat} (hD : Stay lo hi b w D u) : Sheet lo hi b off n k (w.setCell ⟨b, off + i * k + x, none⟩ u) (putD f i x D) := by
  have hs : (w.setCell ⟨b, off + i * k + x, none⟩ u).heap.size = w.heap.size := gsize_set _ _ _
  have hk : ∀ t, t ≠ b → lo ≤ t → t < w.heap.size → (w.setCell ⟨b, off + i * k + x, none⟩ u).heap[t]? = w.heap[t]? := fun t ht _ _ => heap_setCell_other _ _ t _ ht
  refine ⟨h.le, h.bd, by rw [hs]; exact h.lt, fun j hj y hy => ?_⟩
  obtain ⟨g0, v, g1, g2⟩ := h.here j hj y hy
  rw [World.frozen?_setCell]
  refine ⟨g0, ?_⟩
  by_cases he : j = i ∧ y = x
  · obtain ⟨rfl, rfl⟩ := he
    refine ⟨u, World.cell?_setCell_same _ _ _ g1, ?_⟩
    unfold putD
    rw [if_pos ⟨rfl, rfl⟩]
    exact hD.keep hk (by rw [hs]; exact Nat.le_refl _)
  · refine ⟨v, ?_, ?_⟩
    · rw [World.cell?_setCell_other _ _ _ _ (by intro e; injection e with _ e _; exact he (off_one hy hx (by omega)))]
      exact g1
    · unfold putD
      rw [if_neg he]
      exact g2.keep hk (by rw [hs]; exact Nat.le_refl _)
theorem Sheet.more (h : Sheet lo hi b off n k w f) {hi2 : Nat} (hh : hi ≤ hi2) : Sheet lo hi2 b off n k w f :=
  ⟨h.le, Nat.lt_of_lt_of_le h.bd hh, h.lt, fun i hi' x hx => by
    obtain ⟨g0, u, g1, g2⟩ := h.here i hi' x hx
    exact ⟨g0, u, g1, fun w' hk => (g2 w' hk).more (Nat.le_refl _) hh⟩⟩
theorem Sheet.lies (h : Sheet lo hi b off n k w f) {c : Nat} (h1 : n ≤ c) (h2 : c ≤ maxLen) : Lies lo hi w (.row k n f) (.slice (some ⟨b, off, none⟩) n c) :=
  ⟨_, c, rfl, h1, h2, fun _ => ⟨b, off, rfl, h.le, h.bd, fun i hi x hx => by
    obtain ⟨_, u, g1, g2⟩ := h.here i hi x hx
    exact ⟨u, g1, g2 w fun _ _ _ _ => rfl⟩⟩⟩
theorem Sheet.cell (h : Sheet lo hi b off n k w f) {i x : Nat} (hi' : i < n) (hx : x < k) : w.frozen? ⟨b, off + i * k + x, none⟩ = false ∧ ∃ u, w.cell? ⟨b, off + i * k + x, none⟩ = some u := by
  obtain ⟨g0, u, g1, _⟩ := h.here i hi' x hx
  exact ⟨g0, u, g1⟩
end
end Go.Proofs.Ytagnhfalmefbhaa.Gen
