/-
  A resource's copy by the model, and the draws of one resource and of two.
  Conditions: the bytes are in memory.
-/
import Derived.Test.YtagnhfalmefbhaaDrawRes
import Derived.Test.YtagnhfalmefbhaaDraws
import Derived.Test.YtagnhfalmefbhaaCopy5
import Derived.Deep.RegionHeld3
namespace Go.Proofs.Ytagnhfalmefbhaa.Draw
open Go Go.RowKit Go.Proofs.Ytagnhfalmefbhaa.Mem Go.Proofs.Ytagnhfalmefbhaa.Adr Go.Proofs.Ytagnhfalmefbhaa.Res

theorem wf_i (z : Int) (h : I64 z) : (Lit.int .i64 z).wf = true := WalkArith.wf_i64 (by unfold I64 at h; omega)
theorem own_row {base n : Nat} {w : World} {a : Option Addr} {c : Nat} {zs : List Int} (h : OwnI .i64 3 base w (.slice a n c) n zs) (hg : Good zs) : Row .i64 base w.heap.size w a n zs := by
  obtain ⟨a', c', hv, _, _, ho⟩ := h.own hg.wf
  injection hv with h1 _ _
  subst h1
  exact ho.row

/-- A resource that the call has drawn. -/
def Drawn5 (w : World) (e : Ending) (w' : World) : Prop :=
  ∃ (k h q r : Int) (a : Option Addr) (n c : Nat) (zs : List Int), I64 k ∧ I64 h ∧ I64 q ∧ I64 r ∧ e = .returned (Value.agg #[Value.int IntKind.i64 (k), Value.slice (a) (n) (c), Value.int IntKind.i64 (h), Value.int IntKind.i64 (q), Value.int IntKind.i64 (r)]) ∧ Row .i64 0 w'.heap.size w' a n zs ∧ n ≤ 7 ∧ Good zs ∧ Below w.heap.size w w'

set_option maxHeartbeats 1000000 in
set_option maxRecDepth 100000 in
theorem draw_is5 (B : Nat) (a : Option Addr) (n c : Nat) (w : World) (hb : Bytes B w a n) (hB : B ≤ w.heap.size) :
    Calls Try.prog 44 #[.slice a n c] w (Drawn5 w) := by
  have qR := Quint.new 39 (.int .i64 0) (.slice none 0 0) (.int .i64 0) (.int .i64 0) (.int .i64 0) w
  have hb0 : Below w.heap.size w (w.alloc (.cells #[.int .i64 0, .slice none 0 0, .int .i64 0, .int .i64 0, .int .i64 0] 39)) := (Below.refl _ _).alloc (Nat.le_refl _) _
  go_enter Try.func44, Try.ntmps44
  go_wp2_with fail
  go_at_call 31
  refine (new_any B a n c _ (hb.below hb0) (by simp; omega)).mono ?_
  rintro e w1 ⟨rfl, hc1, hb1⟩
  have qR1 := qR.below hb1
  have hB1 := hb0.trans (hb1.mono hb0.size)
  have hs1 := hc1.lt
  rw [size_alloc] at hc1 hs1
  clear hb hb0 hb1 qR
  go_wp2_with fail
  go_at_call 79
  refine (any5 B _ _ hc1).mono ?_
  rintro e w2 ⟨k, h, q, r, a', n', c', zs, hk, hh, hq, hr, rfl, hv, hn, hg, hc2, ho2⟩
  have qR2 := quint_only qR1 ho2 (by omega)
  have hB2 := hB1.trans (ho2.below (Nat.le_succ _) hB1.size)
  obtain ⟨a0, a1, a2, a3, a4⟩ := qR2.cells
  obtain ⟨f0, f1, f2, f3, f4⟩ := qR2.frozen
  clear qR1 hc1 hc2 ho2
  go_wp2_with fail
  have hvF := own5 (R := w.heap.size) hv (by omega) (.int .i64 k) (.slice a' n' c') (.int .i64 h) (.int .i64 q) (.int .i64 r)
  obtain ⟨g0, g1, g2, g3, g4⟩ := (((((qR2.set0 (.int .i64 k)).set1 (.slice a' n' c')).set2 (.int .i64 h)).set3 (.int .i64 q)).set4 (.int .i64 r)).cells
  refine bodyPost_ret (v := (Value.agg #[Value.int IntKind.i64 (k), Value.slice (a') (n') (c'), Value.int IntKind.i64 (h), Value.int IntKind.i64 (q), Value.int IntKind.i64 (r)])) (by simp [results, Try.results44, go_sem, g0, g1, g2, g3, g4]) rfl ?_
  refine ⟨k, h, q, r, a', n', c', zs, hk, hh, hq, hr, rfl, (own_row hvF hg).more (Nat.zero_le _) (Nat.le_refl _), hn, hg, ?_⟩
  iterate 5 (refine Below.setCell ?_ (by dsimp only; omega) _)
  exact hB2

/-- Two resources that the call has drawn. -/
def Drawn55 (w : World) (e : Ending) (w' : World) : Prop :=
  ∃ (k h q r : Int) (a : Option Addr) (n c : Nat) (xs : List Int) (k' h' q' r' : Int) (a' : Option Addr) (n' c' : Nat) (ys : List Int), I64 k ∧ I64 h ∧ I64 q ∧ I64 r ∧ I64 k' ∧ I64 h' ∧ I64 q' ∧ I64 r' ∧
    e = .returned (.tuple #[(Value.agg #[Value.int IntKind.i64 (k), Value.slice (a) (n) (c), Value.int IntKind.i64 (h), Value.int IntKind.i64 (q), Value.int IntKind.i64 (r)]), (Value.agg #[Value.int IntKind.i64 (k'), Value.slice (a') (n') (c'), Value.int IntKind.i64 (h'), Value.int IntKind.i64 (q'), Value.int IntKind.i64 (r')])]) ∧ Row .i64 0 w'.heap.size w' a n xs ∧ Row .i64 0 w'.heap.size w' a' n' ys ∧ n ≤ 7 ∧ n' ≤ 7 ∧ Below w.heap.size w w'

end Go.Proofs.Ytagnhfalmefbhaa.Draw
