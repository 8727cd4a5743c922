/-
  The draws of addresses by the cursor: each hands back some address by value.
  Conditions: the bytes lie below the cursor's block.
-/
import Derived.Test.YtagnhfalmefbhaaDraws
import Derived.Test.YtagnhfalmefbhaaTrio
import Derived.Test.YtagnhfalmefbhaaAdr
namespace Go.Proofs.Ytagnhfalmefbhaa.Draw
open Go Go.RowKit Go.Proofs.Ytagnhfalmefbhaa.Adr

def I64 (z : Int) : Prop := -9223372036854775808 ≤ z ∧ z ≤ 9223372036854775807
/-- An address by value. -/
def IsAdr (e : Ending) : Prop := ∃ h p q : Int, I64 h ∧ I64 p ∧ I64 q ∧ e = .returned (Value.agg #[Value.int IntKind.i64 (h), Value.int IntKind.i64 (p), Value.int IntKind.i64 (q)])
theorem trio_only {T b p : Nat} {x y z : Value} {w w' : World} (h : Trio T b x y z w) (ho : Only p w w') (hne : b ≠ p) : Trio T b x y z w' := ho.heap h hne
theorem Only.setNew {p : Nat} {w w' : World} (h : Only p w w') {a : Addr} (ha : w.heap.size ≤ a.block) (v : Value) : Only p w (w'.setCell a v) :=
  ⟨h.os, h.tape, h.output, by show w.heap.size ≤ (w'.heap.modify a.block _).size; rw [Array.size_modify]; exact h.size, fun k hk hp => (heap_setCell_other w' _ k v (by omega)).trans (h.block k hk hp)⟩
theorem Cur.only_new {T B p : Nat} {w : World} (h : Cur T B p w) {a : Addr} (ha : a.block ≠ p) (hB : B ≤ a.block) (v : Value) : Cur T B p (w.setCell a v) :=
  h.on (q := a.block) (by have := (Only.refl a.block w); exact ⟨rfl, rfl, rfl, by show w.heap.size ≤ (w.heap.modify a.block _).size; rw [Array.size_modify]; exact Nat.le_refl _, fun k _ hk => heap_setCell_other w _ k v hk⟩) (Ne.symm ha) hB

set_option maxRecDepth 100000 in
theorem draw4 (B p : Nat) (w : World) (hc : Cur 97 B p w) :
    Calls Try.prog 92 #[.pointer (some ⟨p, 0, none⟩)] w fun e w' => IsAdr e ∧ Cur 97 B p w' ∧ Only p w w' := by
  have hp := hc.lt
  have hBp := hc.1
  have tA := Trio.new 29 (.int .i64 0) (.int .i64 0) (.int .i64 0) w
  have hc0 : Cur 97 B p (w.alloc (.cells #[.int .i64 0, .int .i64 0, .int .i64 0] 29)) := hc.below ((Below.refl _ _).alloc (Nat.le_refl _) _)
  have ho0 := (Only.refl p w).alloc (.cells #[.int .i64 0, .int .i64 0, .int .i64 0] 29)
  go_enter Try.func92, Try.ntmps92
  go_wp2_with fail
  go_at_call 65
  refine (below_any B p _ _ hc0 (by omega) (by omega)).mono ?_
  rintro e w1 ⟨⟨x, hx, rfl⟩, hc1, ho1⟩
  go_wp2_with fail
  go_at_call 65
  refine (below_any B p _ _ hc1 (by omega) (by omega)).mono ?_
  rintro e w2 ⟨⟨y, hy, rfl⟩, hc2, ho2⟩
  go_wp2_with fail
  go_at_call 65
  refine (below_any B p _ _ hc2 (by omega) (by omega)).mono ?_
  rintro e w3 ⟨⟨z, hz, rfl⟩, hc3, ho3⟩
  have hx3 : x < 3 := hx
  have hy3 : y < 3 := hy
  have hz3 : z < 3 := hz
  clear hx hy hz
  have hO := ((ho0.trans ho1).trans ho2).trans ho3
  have tF := trio_only tA ((ho1.trans ho2).trans ho3) (by omega)
  obtain ⟨a0, a1, a2⟩ := tF.cells
  obtain ⟨f0, f1, f2⟩ := tF.frozen
  clear tA hc0 hc1 hc2 ho0 ho1 ho2 ho3 hc
  go_wp2
  have g0 := (tF.set0 (.int .i64 (1 + x))).cells.1
  have g1 := ((tF.set0 (.int .i64 (1 + x))).set1 (.int .i64 y)).cells.2.1
  have g2 := (((tF.set0 (.int .i64 (1 + x))).set1 (.int .i64 y)).set2 (.int .i64 z)).cells.2.2
  refine bodyPost_ret (v := (Value.agg #[Value.int IntKind.i64 (1 + x), Value.int IntKind.i64 (y), Value.int IntKind.i64 (z)])) (by simp [results, Try.results92, go_sem, g0, g1, g2]) rfl ⟨⟨_, _, _, ⟨by omega, by omega⟩, ⟨by omega, by omega⟩, ⟨by omega, by omega⟩, rfl⟩, ?_, ((hO.setNew (Nat.le_refl _) _).setNew (Nat.le_refl _) _).setNew (Nat.le_refl _) _⟩
  exact ((hc3.only_new (by simp; omega) (by simp; omega) _).only_new (by simp; omega) (by simp; omega) _).only_new (by simp; omega) (by simp; omega) _

set_option maxRecDepth 100000 in
theorem raw4 (B p : Nat) (w : World) (hc : Cur 97 B p w) :
    Calls Try.prog 99 #[.pointer (some ⟨p, 0, none⟩)] w fun e w' => IsInt e ∧ Cur 97 B p w' ∧ Only p w w' := by
  go_enter Try.func99, Try.ntmps99
  go_wp2_with (go_at_call 34; refine (int_new B p [-1, 0, 9, 10, 99, 100, 9223372036854775807, -9223372036854775808] _ _ _ rfl _ _ rfl hc (by decide) (by decide)).mono ?_; rintro e w2 ⟨⟨y, hy, rfl⟩, hc2, ho2⟩)
  go_ret
  exact ⟨isInt_of hy (by decide), hc2, ho2⟩

set_option maxHeartbeats 1000000 in
set_option maxRecDepth 100000 in
theorem any4 (B p : Nat) (w : World) (hc : Cur 97 B p w) :
    Calls Try.prog 90 #[.pointer (some ⟨p, 0, none⟩)] w fun e w' => IsAdr e ∧ Cur 97 B p w' ∧ Only p w w' := by
  have hp := hc.lt
  have hBp := hc.1
  have tA := Trio.new 29 (.int .i64 0) (.int .i64 0) (.int .i64 0) w
  have hc0 : Cur 97 B p (w.alloc (.cells #[.int .i64 0, .int .i64 0, .int .i64 0] 29)) := hc.below ((Below.refl _ _).alloc (Nat.le_refl _) _)
  have ho0 := (Only.refl p w).alloc (.cells #[.int .i64 0, .int .i64 0, .int .i64 0] 29)
  go_enter Try.func90, Try.ntmps90
  go_wp2_with fail
  go_at_call 92
  refine (draw4 B p _ hc0).mono ?_
  rintro e w1 ⟨⟨h, q, r, hh, hq, hr, rfl⟩, hc1, ho1⟩
  have hO1 := ho0.trans ho1
  have hlt := hO1.size
  have hl1 := hc1.lt
  have tA1 := (trio_only tA ho1 (by omega)).alloc (.cells #[.int .i64 h, .int .i64 q, .int .i64 r] 29)
  have tC1 := Trio.new 29 (.int .i64 h) (.int .i64 q) (.int .i64 r) w1
  have hw1 : w.heap.size + 1 ≤ w1.heap.size := by have := ho1.size; rw [size_alloc] at this; exact this
  have hc1' : Cur 97 B p (w1.alloc (.cells #[.int .i64 h, .int .i64 q, .int .i64 r] 29)) := hc1.below ((Below.refl _ _).alloc (Nat.le_refl _) _)
  have hO1' := hO1.alloc (.cells #[.int .i64 h, .int .i64 q, .int .i64 r] 29)
  clear tA hc0 ho0 ho1 hc1 hO1 hc
  go_wp2_with fail
  go_at_call 65
  refine (below_any B p _ _ hc1' (by omega) (by omega)).mono ?_
  rintro e w2 ⟨⟨x, hx, rfl⟩, hc2, ho2⟩
  have tA2 := trio_only tA1 ho2 (by omega)
  have tC2 := trio_only tC1 ho2 (by omega)
  have hO2 := hO1'.trans ho2
  clear tA1 tC1 hO1' hc1' ho2 hx
  by_cases x0 : x = 0
  · subst x0
    go_wp2_with (go_at_call 99; refine (raw4 B p _ hc2).mono ?_; rintro e w3 ⟨⟨y, hy0, hy1, rfl⟩, hc3, ho3⟩; have tA3 := trio_only tA2 ho3 (by omega); have tC3 := trio_only tC2 ho3 (by omega); have hO3 := hO2.trans ho3; obtain ⟨a0, a1, a2⟩ := tA3.cells; obtain ⟨f0, f1, f2⟩ := tA3.frozen; obtain ⟨d0, d1, d2⟩ := tC3.cells; obtain ⟨e0, e1, e2⟩ := tC3.frozen)
    have tF := tA3.other (a := ⟨w1.heap.size, 0, none⟩) (.int .i64 y) (by simp; omega)
    have g0 := (tF.set0 (.int .i64 y)).cells.1
    have g1 := ((tF.set0 (.int .i64 y)).set1 (.int .i64 q)).cells.2.1
    have g2 := (((tF.set0 (.int .i64 y)).set1 (.int .i64 q)).set2 (.int .i64 r)).cells.2.2
    refine bodyPost_ret (v := (Value.agg #[Value.int IntKind.i64 (y), Value.int IntKind.i64 (q), Value.int IntKind.i64 (r)])) (by simp [results, Try.results90, go_sem, g0, g1, g2]) rfl ⟨⟨_, _, _, ⟨hy0, hy1⟩, hq, hr, rfl⟩, ?_, (((hO3.setNew (a := ⟨w1.heap.size, 0, none⟩) (by simp; omega) (.int .i64 y)).setNew (Nat.le_refl _) _).setNew (Nat.le_refl _) _).setNew (Nat.le_refl _) _⟩
    exact (((hc3.only_new (a := ⟨w1.heap.size, 0, none⟩) (by simp; omega) (by simp; omega) (.int .i64 y)).only_new (by simp; omega) (by simp; omega) _).only_new (by simp; omega) (by simp; omega) _).only_new (by simp; omega) (by simp; omega) _
  have e0 : ((x : Int) == 0) = false := by simp; omega
  by_cases x1 : x = 1
  · subst x1
    go_wp2_with (go_at_call 99; refine (raw4 B p _ hc2).mono ?_; rintro e w3 ⟨⟨y, hy0, hy1, rfl⟩, hc3, ho3⟩; have tA3 := trio_only tA2 ho3 (by omega); have tC3 := trio_only tC2 ho3 (by omega); have hO3 := hO2.trans ho3; obtain ⟨a0, a1, a2⟩ := tA3.cells; obtain ⟨f0, f1, f2⟩ := tA3.frozen; obtain ⟨d0, d1, d2⟩ := tC3.cells; obtain ⟨e0, e1, e2⟩ := tC3.frozen)
    have tF := tA3.other (a := ⟨w1.heap.size, 1, none⟩) (.int .i64 y) (by simp; omega)
    have g0 := (tF.set0 (.int .i64 h)).cells.1
    have g1 := ((tF.set0 (.int .i64 h)).set1 (.int .i64 y)).cells.2.1
    have g2 := (((tF.set0 (.int .i64 h)).set1 (.int .i64 y)).set2 (.int .i64 r)).cells.2.2
    refine bodyPost_ret (v := (Value.agg #[Value.int IntKind.i64 (h), Value.int IntKind.i64 (y), Value.int IntKind.i64 (r)])) (by simp [results, Try.results90, go_sem, g0, g1, g2]) rfl ⟨⟨_, _, _, hh, ⟨hy0, hy1⟩, hr, rfl⟩, ?_, (((hO3.setNew (a := ⟨w1.heap.size, 1, none⟩) (by simp; omega) (.int .i64 y)).setNew (Nat.le_refl _) _).setNew (Nat.le_refl _) _).setNew (Nat.le_refl _) _⟩
    exact (((hc3.only_new (a := ⟨w1.heap.size, 1, none⟩) (by simp; omega) (by simp; omega) (.int .i64 y)).only_new (by simp; omega) (by simp; omega) _).only_new (by simp; omega) (by simp; omega) _).only_new (by simp; omega) (by simp; omega) _
  have e1 : ((x : Int) == 1) = false := by simp; omega
  by_cases x2 : x = 2
  · subst x2
    go_wp2_with (go_at_call 99; refine (raw4 B p _ hc2).mono ?_; rintro e w3 ⟨⟨y, hy0, hy1, rfl⟩, hc3, ho3⟩; have tA3 := trio_only tA2 ho3 (by omega); have tC3 := trio_only tC2 ho3 (by omega); have hO3 := hO2.trans ho3; obtain ⟨a0, a1, a2⟩ := tA3.cells; obtain ⟨f0, f1, f2⟩ := tA3.frozen; obtain ⟨d0, d1, d2⟩ := tC3.cells; obtain ⟨e0, e1, e2⟩ := tC3.frozen)
    have tF := tA3.other (a := ⟨w1.heap.size, 2, none⟩) (.int .i64 y) (by simp; omega)
    have g0 := (tF.set0 (.int .i64 h)).cells.1
    have g1 := ((tF.set0 (.int .i64 h)).set1 (.int .i64 q)).cells.2.1
    have g2 := (((tF.set0 (.int .i64 h)).set1 (.int .i64 q)).set2 (.int .i64 y)).cells.2.2
    refine bodyPost_ret (v := (Value.agg #[Value.int IntKind.i64 (h), Value.int IntKind.i64 (q), Value.int IntKind.i64 (y)])) (by simp [results, Try.results90, go_sem, g0, g1, g2]) rfl ⟨⟨_, _, _, hh, hq, ⟨hy0, hy1⟩, rfl⟩, ?_, (((hO3.setNew (a := ⟨w1.heap.size, 2, none⟩) (by simp; omega) (.int .i64 y)).setNew (Nat.le_refl _) _).setNew (Nat.le_refl _) _).setNew (Nat.le_refl _) _⟩
    exact (((hc3.only_new (a := ⟨w1.heap.size, 2, none⟩) (by simp; omega) (by simp; omega) (.int .i64 y)).only_new (by simp; omega) (by simp; omega) _).only_new (by simp; omega) (by simp; omega) _).only_new (by simp; omega) (by simp; omega) _
  have e2 : ((x : Int) == 2) = false := by simp; omega
  obtain ⟨a0, a1, a2⟩ := tA2.cells
  obtain ⟨f0, f1, f2⟩ := tA2.frozen
  obtain ⟨d0, d1, d2⟩ := tC2.cells
  go_wp2_with fail
  have tF := tA2
  have g0 := (tF.set0 (.int .i64 h)).cells.1
  have g1 := ((tF.set0 (.int .i64 h)).set1 (.int .i64 q)).cells.2.1
  have g2 := (((tF.set0 (.int .i64 h)).set1 (.int .i64 q)).set2 (.int .i64 r)).cells.2.2
  refine bodyPost_ret (v := (Value.agg #[Value.int IntKind.i64 (h), Value.int IntKind.i64 (q), Value.int IntKind.i64 (r)])) (by simp [results, Try.results90, go_sem, g0, g1, g2]) rfl ⟨⟨_, _, _, hh, hq, hr, rfl⟩, ?_, (((hO2).setNew (Nat.le_refl _) _).setNew (Nat.le_refl _) _).setNew (Nat.le_refl _) _⟩
  exact (((hc2).only_new (by simp; omega) (by simp; omega) _).only_new (by simp; omega) (by simp; omega) _).only_new (by simp; omega) (by simp; omega) _
end Go.Proofs.Ytagnhfalmefbhaa.Draw
