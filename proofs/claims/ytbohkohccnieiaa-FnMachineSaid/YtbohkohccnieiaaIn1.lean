/-
  Rows of a call's own, each in a block alone: an append of a row onto an empty slice, in a region that draws its order.
  Conditions: none; nothing of the program stands here.
-/
import Derived.Test.YtbohkohccnieiaaStepAt
import Derived.Test.YtbohkohccnieiaaBlk
import Derived.Test.YtbohkohccnieiaaDat
namespace Go.Proofs.Ytbohkohccnieiaa.Gen
open Go Go.RowKit Go.Proofs.Ytbohkohccnieiaa.Mem Go.Proofs.Ytbohkohccnieiaa.Draw

/-- A row of a call's own, all in block p. -/
structure In1 (p : Nat) (w : World) (a : Option Addr) (n c : Nat) (zs : List Int) : Prop where
  own : Own .i64 p (p + 1) w a n zs
  lt : p < w.heap.size
  le : n ≤ c
  mx : c ≤ maxLen
theorem In1.keep {p n c : Nat} {w w' : World} {a : Option Addr} {zs : List Int} (h : In1 p w a n c zs) (hk : w'.heap[p]? = w.heap[p]?) : In1 p w' a n c zs := by
  refine ⟨h.own.keep fun i _ h1 h2 => by rw [show i = p by omega]; exact hk, ?_, h.le, h.mx⟩
  have := h.lt
  rw [Array.getElem?_eq_getElem this] at hk
  exact (Array.getElem?_eq_some_iff.1 hk).1
theorem In1.below {p n c : Nat} {w w' : World} {a : Option Addr} {zs : List Int} (h : In1 p w a n c zs) (hb : Below w.heap.size w w') : In1 p w' a n c zs := h.keep (hb.block p h.lt)
theorem In1.other {p n c : Nat} {w : World} {a : Option Addr} {zs : List Int} (h : In1 p w a n c zs) {q : Addr} (u : Value) (hne : p ≠ q.block) : In1 p (w.setCell q u) a n c zs := h.keep (heap_setCell_other w q p u hne)
theorem In1.owns {p c : Nat} {w : World} {a : Option Addr} {zs : List Int} (h : In1 p w a zs.length c zs) : Owns w (ints zs) (.slice a zs.length c) (fun t => t = p) :=
  Owns.of_row h.own h.le h.mx fun t h1 h2 => by omega

section
variable {P : Program} {ops : Array Oper} {o : Oper} {a : Act} {w : World} {K : Act → World → Prop} {Q : Exit → Act → World → Prop} {E : Prop}
theorem step_copy (hgd : o.guard = none) (s x : Operand) (t : TypeId)
    (ho : o.op = .call { callee := .builtin .append, args := #[s, x], argTypes := #[t, t] })
    (e : Nat) (i : TypeInfo) (z : Value) (bytes : Nat) (ht : P.underlying t = some (.slice e)) (hi : P.info? e = some i) (hz : i.zero = some z)
    (hsize : i.size = 1) (hby : i.bytes = bytes) (hzs : z.cells.size = 1) (hb128 : bytes ≤ 128)
    (g : Nat) (hq : Blk e g [] w) (hs : a.eval s = .slice (some ⟨g, 0, none⟩) 0 0)
    (lo hi' : Nat) (A : Option Addr) (m c : Nat) (zs : List Int) (hx : a.eval x = .slice A m c) (hr : Row .i64 lo hi' w A m zs) (hm : m ≤ 1099511627776)
    (h : ∀ a' c' p w', In1 p w' a' m c' zs → (p = g ∨ p = w.heap.size) → w.heap.size ≤ w'.heap.size → (∀ t, t < w.heap.size → t ≠ g → w'.heap[t]? = w.heap[t]?) → (∀ B, B ≤ g → Below B w w') → K (a.put o.dst (.slice a' m c')) w') :
    if Region.wanted o (yielded ops a.tmps) = true then Oper.wp P o a w K Q else E := by
  have hg := hq.lt
  have hown : OwnI .i64 e g w (.slice (some ⟨g, 0, none⟩) 0 0) 0 [] := ⟨by simp, .inr ⟨g, 0, #[], rfl, Nat.le_refl _, hq, Nat.le_refl _, by simp, by simp, by simp⟩⟩
  refine step_append_rows_at hgd s x t ho g e i z bytes ht hi hz hsize hby hzs _ 0 [] hs hown lo hi' A m c zs hx hr (by unfold maxLen; omega) ?_ (by omega) ?_
  · have : m * bytes ≤ 1099511627776 * 128 := Nat.mul_le_mul hm hb128
    rw [Nat.zero_add]; omega
  intro v' w' hv hgr hat
  rw [Nat.zero_add, List.nil_append] at hv
  have hsz := hgr.size
  have hblk : ∀ t, t < w.heap.size → t ≠ g → w'.heap[t]? = w.heap[t]? := fun t ht hne => hgr.block t ht fun e => hne (by simpa [Value.ownBlock] using e)
  have hbel : ∀ B, B ≤ g → Below B w w' := fun B hB => ⟨hgr.os, hgr.tape, hgr.output, hsz, fun k hk => hblk k (by omega) (by omega)⟩
  have hlen := hv.len
  rcases hv.2 with ⟨rfl, hm0⟩ | ⟨b, cap, cur, rfl, hgb, hcur, hc1, hc2, _, _⟩
  · subst hm0
    obtain rfl := List.eq_nil_of_length_eq_zero hlen
    exact h none 0 g w' ⟨Own.nil _ _ _ _ _, by omega, Nat.le_refl _, Nat.zero_le _⟩ (.inl rfl) hsz hblk hbel
  · obtain ⟨a2, c2, e2, h1, h2, h3⟩ := OwnI.own hv hr.wf
    injection e2 with e3 e4 e5
    subst e3 e5
    refine h (some ⟨b, 0, none⟩) cap b w' ⟨⟨h3.len, h3.wf, fun hn => ?_⟩, (Array.getElem?_eq_some_iff.1 hcur).1, h1, h2⟩ ?_ hsz hblk hbel
    · obtain ⟨b', off, e6, _, _, h6⟩ := h3.here hn
      injection e6 with e6
      injection e6 with e7 e8
      subst e7 e8
      exact ⟨b, 0, rfl, Nat.le_refl _, by omega, h6⟩
    · rcases hat with e | e
      · left; simpa [Value.ownBlock] using e
      · right; simpa [Value.ownBlock] using e
end
end Go.Proofs.Ytbohkohccnieiaa.Gen
