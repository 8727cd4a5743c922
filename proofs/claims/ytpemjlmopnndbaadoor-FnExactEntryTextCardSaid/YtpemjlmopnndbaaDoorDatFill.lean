/-
  A slice of structs that is laid and then filled, element by element.
  Conditions: none; nothing of the program stands here.
-/
import Derived.Test.YtpemjlmopnndbaaDoorDatMark
namespace Go.Proofs.YtpemjlmopnndbaaDoor.Gen
open Go Go.RowKit Go.Proofs.YtpemjlmopnndbaaDoor.Mem

/-- The cells from offset o on are written, one after the other. -/
def putL (w : World) (b o : Nat) : List Value → World
  | [] => w
  | u :: us => putL (w.setCell ⟨b, o, none⟩ u) b (o + 1) us
theorem putL_frozen (b : Nat) (x : Addr) : ∀ (us : List Value) (w : World) (o : Nat), (putL w b o us).frozen? x = w.frozen? x
  | [], _, _ => rfl
  | u :: us, w, o => by rw [putL, putL_frozen b x us, World.frozen?_setCell]
theorem putL_block (b k : Nat) (h : k ≠ b) : ∀ (us : List Value) (w : World) (o : Nat), (putL w b o us).heap[k]? = w.heap[k]?
  | [], _, _ => rfl
  | u :: us, w, o => by rw [putL, putL_block b k h us, Below.heap_setCell _ _ _ _ h]
theorem putL_size (b : Nat) : ∀ (us : List Value) (w : World) (o : Nat), (putL w b o us).heap.size = w.heap.size
  | [], _, _ => rfl
  | u :: us, w, o => by rw [putL, putL_size b us]; simp [World.setCell]
theorem putL_below {B b : Nat} (hb : B ≤ b) {w0 : World} : ∀ (us : List Value) (w : World) (o : Nat), Below B w0 w → Below B w0 (putL w b o us)
  | [], _, _, h => h
  | u :: us, w, o, h => by rw [putL]; exact putL_below hb us _ _ (h.setCell hb _)
theorem putL_zone {lo hi b : Nat} (hb : lo ≤ b ∧ b < hi) {w0 : World} : ∀ (us : List Value) (w : World) (o : Nat), Zone lo hi w0 w → Zone lo hi w0 (putL w b o us)
  | [], _, _, h => h
  | u :: us, w, o, h => by rw [putL]; exact putL_zone hb us _ _ (h.setCell hb _)
theorem cell_set_ne' {w : World} {b o o' : Nat} (v : Value) (h : o ≠ o') : (w.setCell ⟨b, o, none⟩ v).cell? ⟨b, o', none⟩ = w.cell? ⟨b, o', none⟩ :=
  World.cell?_setCell_other _ _ _ _ (by intro e; injection e with _ e _; omega)
theorem putL_other (b x : Nat) : ∀ (us : List Value) (w : World) (o : Nat), x < o ∨ o + us.length ≤ x → (putL w b o us).cell? ⟨b, x, none⟩ = w.cell? ⟨b, x, none⟩
  | [], _, _, _ => rfl
  | u :: us, w, o, h => by
    simp only [List.length_cons] at h
    rw [putL, putL_other b x us _ _ (by omega), cell_set_ne' _ (by omega)]
theorem putL_at (b : Nat) : ∀ (us : List Value) (w : World) (o x : Nat) (u : Value), (∀ y, y < us.length → ∃ v, w.cell? ⟨b, o + y, none⟩ = some v) → us[x]? = some u → (putL w b o us).cell? ⟨b, o + x, none⟩ = some u
  | [], _, _, _, _, _, h => by simp at h
  | v :: us, w, o, 0, u, hc, h => by
    simp only [List.getElem?_cons_zero, Option.some.injEq] at h
    subst h
    obtain ⟨z, hz⟩ := hc 0 (by simp)
    rw [Nat.add_zero] at hz ⊢
    rw [putL, putL_other b _ us _ _ (by omega), World.cell?_setCell_same _ _ _ hz]
  | v :: us, w, o, x + 1, u, hc, h => by
    simp only [List.getElem?_cons_succ] at h
    rw [putL, show o + (x + 1) = o + 1 + x by omega]
    refine putL_at b us _ (o + 1) x u (fun y hy => ?_) h
    obtain ⟨z, hz⟩ := hc (y + 1) (by simp; omega)
    exact ⟨z, by rw [cell_set_ne' _ (by omega), show o + 1 + y = o + (y + 1) by omega]; exact hz⟩

/-- A slice of n elements in block b, of which the first j are filled. -/
structure FillG (b n k : Nat) (G : Nat → Nat → Nat → Prop) (D : Nat → Nat → Dat) (j : Nat) (w : World) : Prop where
  lt : b < w.heap.size
  sep : Apart (Span b w.heap.size) b j k G
  done : ∀ i, i < j → ∀ x, x < k → ∃ u, w.cell? ⟨b, i * k + x, none⟩ = some u ∧ Owns w (D i x) u (G i x)
  rest : ∀ t, t < n * k → (∃ u, w.cell? ⟨b, t, none⟩ = some u) ∧ w.frozen? ⟨b, t, none⟩ = false
def Fill (b n k : Nat) (D : Nat → Nat → Dat) (j : Nat) (w : World) : Prop := ∃ G, FillG b n k G D j w
/-- Among what a call has given: the values of an element, each with blocks of its own. -/
structure Fresh (lo hi k : Nat) (g : Nat → Nat → Prop) (D : Nat → Dat) (us : List Value) (w : World) : Prop where
  len : us.length = k
  sub : ∀ x t, x < k → g x t → lo ≤ t ∧ t < hi
  dis : ∀ x y t, x < k → y < k → g x t → g y t → x = y
  own : ∀ x, x < k → ∃ u, us[x]? = some u ∧ Owns w (D x) u (g x)

theorem Fill.rest {b n k j : Nat} {D : Nat → Nat → Dat} {w : World} (h : Fill b n k D j w) (t : Nat) (ht : t < n * k) : (∃ u, w.cell? ⟨b, t, none⟩ = some u) ∧ w.frozen? ⟨b, t, none⟩ = false := by
  obtain ⟨G, h⟩ := h; exact h.rest t ht
theorem Fill.start {T : TypeId} {b n k : Nat} {w : World} {xs : List Value} {D : Nat → Nat → Dat} (h : w.ownsRow b T k (.slice (some ⟨b, 0, none⟩) n n) n xs) : Fill b n k D 0 w := by
  refine ⟨fun _ _ _ => False, (h.lt b rfl).2, ⟨fun _ _ _ _ _ h => h.elim, fun _ _ _ _ _ _ _ _ _ h => h.elim⟩, fun i hi => absurd hi (by omega), fun x hx => ⟨?_, h.frozenAt _⟩⟩
  rw [h.cellAt x hx]
  exact ⟨_, List.getElem?_eq_getElem (by rw [h.1]; exact hx)⟩
theorem Fill.below {b n k j : Nat} {D : Nat → Nat → Dat} {w w' : World} (h : Fill b n k D j w) (hb : Below w.heap.size w w') : Fill b n k D j w' := by
  obtain ⟨G, h⟩ := h
  have e := hb.block b h.lt
  have hs := hb.size
  refine ⟨G, Nat.lt_of_lt_of_le h.lt hs, ⟨fun i x t hi hx hG => ?_, h.sep.dis⟩, fun i hi x hx => ?_, fun t ht => ?_⟩
  · have := h.sep.sub i x t hi hx hG
    unfold Span at *
    omega
  · obtain ⟨u, h1, h2⟩ := h.done i hi x hx
    exact ⟨u, by rw [cell_of_heap e]; exact h1, h2.below hb⟩
  · rw [cell_of_heap e, frozen_of_heap e]
    exact h.rest t ht
theorem Fill.next {b n k j : Nat} {D : Nat → Nat → Dat} {w w1 : World} {g : Nat → Nat → Prop} {us : List Value} (h : Fill b n k D j w) (hb : Below w.heap.size w w1) (hj : j < n) (ho : Fresh w.heap.size w1.heap.size k g (D j) us w1) : Fill b n k D (j + 1) (putL w1 b (j * k) us) := by
  have hlt1 : b < w.heap.size := by obtain ⟨G, h⟩ := h; exact h.lt
  obtain ⟨G0, h0⟩ := h
  have hsz := hb.size
  have hjk : j * k + k ≤ n * k := by
    have := Nat.mul_le_mul_right k (show j + 1 ≤ n by omega)
    rw [Nat.add_mul] at this
    omega
  have hs0 : ∀ i x t, i < j → x < k → G0 i x t → (b ≤ t ∧ t < w.heap.size) ∧ t ≠ b := fun i x t hi hx hG => h0.sep.sub i x t hi hx hG
  have ho0 : ∀ i, i < j → ∀ x, x < k → ∃ u, w.cell? ⟨b, i * k + x, none⟩ = some u ∧ Owns w (D i x) u (G0 i x) := h0.done
  have eb := hb.block b hlt1
  have hkeep : ∀ {d : Dat} {v : Value} {S : Nat → Prop}, Owns w1 d v S → (∀ t, S t → t ≠ b) → Owns (putL w1 b (j * k) us) d v S := fun ho hne => ho.keep fun t _ hS => putL_block b t (hne t hS) us w1 _
  refine ⟨fun i x => if i = j then g x else G0 i x, by rw [putL_size]; omega, ⟨fun i x t hi hx hG => ?_, fun i x i' y t hi hx hi' hy hG hG' => ?_⟩, fun i hi x hx => ?_, fun t ht => ?_⟩
  · rw [putL_size]
    by_cases he : i = j
    · simp only [if_pos he] at hG
      have := ho.sub x t hx hG
      unfold Span
      omega
    · simp only [if_neg he] at hG
      have := hs0 i x t (by omega) hx hG
      unfold Span
      omega
  · by_cases he : i = j
    · simp only [if_pos he] at hG
      by_cases he' : i' = j
      · simp only [if_pos he'] at hG'
        exact ⟨by omega, ho.dis x y t hx hy hG hG'⟩
      · simp only [if_neg he'] at hG'
        have h1 := ho.sub x t hx hG
        have h2 := (hs0 i' y t (by omega) hy hG').1
        omega
    · simp only [if_neg he] at hG
      by_cases he' : i' = j
      · simp only [if_pos he'] at hG'
        have h1 := ho.sub y t hy hG'
        have h2 := (hs0 i x t (by omega) hx hG).1
        omega
      · simp only [if_neg he'] at hG'
        exact h0.sep.dis i x i' y t (by omega) hx (by omega) hy hG hG'
  · by_cases he : i = j
    · subst he
      simp only [if_pos]
      obtain ⟨u, h1, h2⟩ := ho.own x hx
      refine ⟨u, putL_at b us w1 _ x u (fun y hy => ?_) h1, hkeep h2 fun t ht => ?_⟩
      · obtain ⟨z, hz⟩ := (h0.rest (i * k + y) (by rw [ho.len] at hy; omega)).1
        exact ⟨z, by rw [cell_of_heap eb]; exact hz⟩
      · have := ho.sub x t hx ht
        omega
    · simp only [if_neg he]
      obtain ⟨u, h1, h2⟩ := ho0 i (by omega) x hx
      refine ⟨u, ?_, hkeep (h2.below hb) fun t ht => (hs0 i x t (by omega) hx ht).2⟩
      have hix : i * k + x < j * k := by
        have := Nat.mul_le_mul_right k (show i + 1 ≤ j by omega)
        rw [Nat.add_mul] at this
        omega
      rw [putL_other _ _ _ _ _ (.inl hix), cell_of_heap eb]
      exact h1
  · rw [putL_frozen, frozen_of_heap eb]
    refine ⟨?_, (h0.rest t ht).2⟩
    obtain ⟨z, hz⟩ := (h0.rest t ht).1
    by_cases hin : t < j * k ∨ j * k + us.length ≤ t
    · exact ⟨z, by rw [putL_other _ _ _ _ _ hin, cell_of_heap eb]; exact hz⟩
    · have ht' : t - j * k < us.length := by omega
      refine ⟨us[t - j * k], ?_⟩
      have := putL_at b us w1 (j * k) (t - j * k) us[t - j * k] (fun y hy => by
        obtain ⟨z, hz⟩ := (h0.rest (j * k + y) (by rw [ho.len] at hy; omega)).1
        exact ⟨z, by rw [cell_of_heap eb]; exact hz⟩) (List.getElem?_eq_getElem ht')
      rw [show j * k + (t - j * k) = t by omega] at this
      exact this
theorem Fill.own {b n k : Nat} {D : Nat → Nat → Dat} {w : World} (h : Fill b n k D n w) (hn : n ≤ maxLen) : OwnD b w.heap.size w (.row k n D) (.slice (some ⟨b, 0, none⟩) n n) := by
  obtain ⟨G, h⟩ := h
  refine ⟨_, _, rfl, Nat.le_refl _, hn, fun _ => ⟨b, 0, G, rfl, ⟨Nat.le_refl _, h.lt⟩, h.sep, fun i hi x hx => ?_⟩⟩
  obtain ⟨u, h1, h2⟩ := h.done i hi x hx
  rw [Nat.zero_add]
  refine ⟨(h.rest _ ?_).2, u, h1, h2⟩
  have := Nat.mul_le_mul_right k (show i + 1 ≤ n by omega)
  rw [Nat.add_mul] at this
  omega
end Go.Proofs.YtpemjlmopnndbaaDoor.Gen
