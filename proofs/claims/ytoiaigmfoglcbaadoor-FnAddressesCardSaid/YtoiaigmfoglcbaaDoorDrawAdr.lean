/-
  The draws of addresses: each hands back some address by value; the text that is drawn is short.
  Conditions: the bytes lie below the cursor's block.
-/
import Derived.Test.YtoiaigmfoglcbaaDoorDrawStr
import Derived.Test.YtoiaigmfoglcbaaDoorTrio
import Derived.Test.YtoiaigmfoglcbaaDoorAddrText
namespace Go.Proofs.YtoiaigmfoglcbaaDoor.Draw
open Go Go.RowKit Go.Proofs.YtoiaigmfoglcbaaDoor.Adr

def I64 (z : Int) : Prop := -9223372036854775808 ≤ z ∧ z ≤ 9223372036854775807
/-- An address by value. -/
def IsAdr (e : Ending) : Prop := ∃ h p q : Int, I64 h ∧ I64 p ∧ I64 q ∧ e = .returned (Value.agg #[Value.int IntKind.i64 (h), Value.int IntKind.i64 (p), Value.int IntKind.i64 (q)])
theorem trio_only {T b p : Nat} {x y z : Value} {w w' : World} (h : Trio T b x y z w) (ho : Only p w w') (hne : b ≠ p) : Trio T b x y z w' := ho.heap h hne
theorem Only.setNew {p : Nat} {w w' : World} (h : Only p w w') {a : Addr} (ha : w.heap.size ≤ a.block) (v : Value) : Only p w (w'.setCell a v) :=
  ⟨h.os, h.tape, h.output, by show w.heap.size ≤ (w'.heap.modify a.block _).size; rw [Array.size_modify]; exact h.size, fun k hk hp => (heap_setCell_other w' _ k v (by omega)).trans (h.block k hk hp)⟩
theorem Cur.only_new {T B p : Nat} {w : World} (h : Cur T B p w) {a : Addr} (ha : a.block ≠ p) (hB : B ≤ a.block) (v : Value) : Cur T B p (w.setCell a v) :=
  h.on (q := a.block) (by have := (Only.refl a.block w); exact ⟨rfl, rfl, rfl, by show w.heap.size ≤ (w.heap.modify a.block _).size; rw [Array.size_modify]; exact Nat.le_refl _, fun k _ hk => heap_setCell_other w _ k v hk⟩) (Ne.symm ha) hB

set_option maxRecDepth 100000 in
theorem draw4 (B p : Nat) (w : World) (hc : Cur 55 B p w) :
    Calls Tryd.prog 27 #[.pointer (some ⟨p, 0, none⟩)] w fun e w' => IsAdr e ∧ Cur 55 B p w' ∧ Only p w w' := by
  have hp := hc.lt
  have hBp := hc.1
  have tA := Trio.new 25 (.int .i64 0) (.int .i64 0) (.int .i64 0) w
  have hc0 : Cur 55 B p (w.alloc (.cells #[.int .i64 0, .int .i64 0, .int .i64 0] 25)) := hc.below ((Below.refl _ _).alloc (Nat.le_refl _) _)
  have ho0 := (Only.refl p w).alloc (.cells #[.int .i64 0, .int .i64 0, .int .i64 0] 25)
  go_enter Tryd.func27, Tryd.ntmps27
  go_wp2_with fail
  go_at_call 34
  refine (below_any B p _ _ hc0 (by omega) (by omega)).mono ?_
  rintro e w1 ⟨⟨x, hx, rfl⟩, hc1, ho1⟩
  go_wp2_with fail
  go_at_call 34
  refine (below_any B p _ _ hc1 (by omega) (by omega)).mono ?_
  rintro e w2 ⟨⟨y, hy, rfl⟩, hc2, ho2⟩
  go_wp2_with fail
  go_at_call 34
  refine (below_any B p _ _ hc2 (by omega) (by omega)).mono ?_
  rintro e w3 ⟨⟨z, hz, rfl⟩, hc3, ho3⟩
  have hx3 : x < 3 := hx
  have hy3 : y < 3 := hy
  have hz3 : z < 3 := hz
  clear hx hy hz
  have hO := ((ho0.trans ho1).trans ho2).trans ho3
  have tF := trio_only tA ((ho1.trans ho2).trans ho3) (by omega)
  obtain ⟨a0, a1, a2⟩ := tF.cells
  obtain ⟨f0, f1, f2⟩ := tF.frozen
  clear tA hc0 hc1 hc2 ho0 ho1 ho2 ho3 hc
  go_wp2
  have g0 := (tF.set0 (.int .i64 (1 + x))).cells.1
  have g1 := ((tF.set0 (.int .i64 (1 + x))).set1 (.int .i64 y)).cells.2.1
  have g2 := (((tF.set0 (.int .i64 (1 + x))).set1 (.int .i64 y)).set2 (.int .i64 z)).cells.2.2
  refine bodyPost_ret (v := (Value.agg #[Value.int IntKind.i64 (1 + x), Value.int IntKind.i64 (y), Value.int IntKind.i64 (z)])) (by simp [results, Tryd.results27, go_sem, g0, g1, g2]) rfl ⟨⟨_, _, _, ⟨by omega, by omega⟩, ⟨by omega, by omega⟩, ⟨by omega, by omega⟩, rfl⟩, ?_, ((hO.setNew (Nat.le_refl _) _).setNew (Nat.le_refl _) _).setNew (Nat.le_refl _) _⟩
  exact ((hc3.only_new (by simp; omega) (by simp; omega) _).only_new (by simp; omega) (by simp; omega) _).only_new (by simp; omega) (by simp; omega) _

set_option maxRecDepth 100000 in
theorem raw4 (B p : Nat) (w : World) (hc : Cur 55 B p w) :
    Calls Tryd.prog 35 #[.pointer (some ⟨p, 0, none⟩)] w fun e w' => IsInt e ∧ Cur 55 B p w' ∧ Only p w w' := by
  go_enter Tryd.func35, Tryd.ntmps35
  go_wp2_with (go_at_call 41; refine (int_new B p [-1, 0, 9, 10, 99, 100, 9223372036854775807, -9223372036854775808] _ _ _ rfl _ _ rfl hc (by decide) (by decide)).mono ?_; rintro e w2 ⟨⟨y, hy, rfl⟩, hc2, ho2⟩)
  go_ret
  exact ⟨isInt_of hy (by decide), hc2, ho2⟩

set_option maxHeartbeats 1000000 in
set_option maxRecDepth 100000 in
theorem any4 (B p : Nat) (w : World) (hc : Cur 55 B p w) :
    Calls Tryd.prog 21 #[.pointer (some ⟨p, 0, none⟩)] w fun e w' => IsAdr e ∧ Cur 55 B p w' ∧ Only p w w' := by
  have hp := hc.lt
  have hBp := hc.1
  have tA := Trio.new 25 (.int .i64 0) (.int .i64 0) (.int .i64 0) w
  have hc0 : Cur 55 B p (w.alloc (.cells #[.int .i64 0, .int .i64 0, .int .i64 0] 25)) := hc.below ((Below.refl _ _).alloc (Nat.le_refl _) _)
  have ho0 := (Only.refl p w).alloc (.cells #[.int .i64 0, .int .i64 0, .int .i64 0] 25)
  go_enter Tryd.func21, Tryd.ntmps21
  go_wp2_with fail
  go_at_call 27
  refine (draw4 B p _ hc0).mono ?_
  rintro e w1 ⟨⟨h, q, r, hh, hq, hr, rfl⟩, hc1, ho1⟩
  have hO1 := ho0.trans ho1
  have hlt := hO1.size
  have hl1 := hc1.lt
  have tA1 := (trio_only tA ho1 (by omega)).alloc (.cells #[.int .i64 h, .int .i64 q, .int .i64 r] 25)
  have tC1 := Trio.new 25 (.int .i64 h) (.int .i64 q) (.int .i64 r) w1
  have hw1 : w.heap.size + 1 ≤ w1.heap.size := by have := ho1.size; rw [size_alloc] at this; exact this
  have hc1' : Cur 55 B p (w1.alloc (.cells #[.int .i64 h, .int .i64 q, .int .i64 r] 25)) := hc1.below ((Below.refl _ _).alloc (Nat.le_refl _) _)
  have hO1' := hO1.alloc (.cells #[.int .i64 h, .int .i64 q, .int .i64 r] 25)
  clear tA hc0 ho0 ho1 hc1 hO1 hc
  go_wp2_with fail
  go_at_call 34
  refine (below_any B p _ _ hc1' (by omega) (by omega)).mono ?_
  rintro e w2 ⟨⟨x, hx, rfl⟩, hc2, ho2⟩
  have tA2 := trio_only tA1 ho2 (by omega)
  have tC2 := trio_only tC1 ho2 (by omega)
  have hO2 := hO1'.trans ho2
  clear tA1 tC1 hO1' hc1' ho2 hx
  by_cases x0 : x = 0
  · subst x0
    go_wp2_with (go_at_call 35; refine (raw4 B p _ hc2).mono ?_; rintro e w3 ⟨⟨y, hy0, hy1, rfl⟩, hc3, ho3⟩; have tA3 := trio_only tA2 ho3 (by omega); have tC3 := trio_only tC2 ho3 (by omega); have hO3 := hO2.trans ho3; obtain ⟨a0, a1, a2⟩ := tA3.cells; obtain ⟨f0, f1, f2⟩ := tA3.frozen; obtain ⟨d0, d1, d2⟩ := tC3.cells; obtain ⟨e0, e1, e2⟩ := tC3.frozen)
    have tF := tA3.other (a := ⟨w1.heap.size, 0, none⟩) (.int .i64 y) (by simp; omega)
    have g0 := (tF.set0 (.int .i64 y)).cells.1
    have g1 := ((tF.set0 (.int .i64 y)).set1 (.int .i64 q)).cells.2.1
    have g2 := (((tF.set0 (.int .i64 y)).set1 (.int .i64 q)).set2 (.int .i64 r)).cells.2.2
    refine bodyPost_ret (v := (Value.agg #[Value.int IntKind.i64 (y), Value.int IntKind.i64 (q), Value.int IntKind.i64 (r)])) (by simp [results, Tryd.results21, go_sem, g0, g1, g2]) rfl ⟨⟨_, _, _, ⟨hy0, hy1⟩, hq, hr, rfl⟩, ?_, (((hO3.setNew (a := ⟨w1.heap.size, 0, none⟩) (by simp; omega) (.int .i64 y)).setNew (Nat.le_refl _) _).setNew (Nat.le_refl _) _).setNew (Nat.le_refl _) _⟩
    exact (((hc3.only_new (a := ⟨w1.heap.size, 0, none⟩) (by simp; omega) (by simp; omega) (.int .i64 y)).only_new (by simp; omega) (by simp; omega) _).only_new (by simp; omega) (by simp; omega) _).only_new (by simp; omega) (by simp; omega) _
  have e0 : ((x : Int) == 0) = false := by simp; omega
  by_cases x1 : x = 1
  · subst x1
    go_wp2_with (go_at_call 35; refine (raw4 B p _ hc2).mono ?_; rintro e w3 ⟨⟨y, hy0, hy1, rfl⟩, hc3, ho3⟩; have tA3 := trio_only tA2 ho3 (by omega); have tC3 := trio_only tC2 ho3 (by omega); have hO3 := hO2.trans ho3; obtain ⟨a0, a1, a2⟩ := tA3.cells; obtain ⟨f0, f1, f2⟩ := tA3.frozen; obtain ⟨d0, d1, d2⟩ := tC3.cells; obtain ⟨e0, e1, e2⟩ := tC3.frozen)
    have tF := tA3.other (a := ⟨w1.heap.size, 1, none⟩) (.int .i64 y) (by simp; omega)
    have g0 := (tF.set0 (.int .i64 h)).cells.1
    have g1 := ((tF.set0 (.int .i64 h)).set1 (.int .i64 y)).cells.2.1
    have g2 := (((tF.set0 (.int .i64 h)).set1 (.int .i64 y)).set2 (.int .i64 r)).cells.2.2
    refine bodyPost_ret (v := (Value.agg #[Value.int IntKind.i64 (h), Value.int IntKind.i64 (y), Value.int IntKind.i64 (r)])) (by simp [results, Tryd.results21, go_sem, g0, g1, g2]) rfl ⟨⟨_, _, _, hh, ⟨hy0, hy1⟩, hr, rfl⟩, ?_, (((hO3.setNew (a := ⟨w1.heap.size, 1, none⟩) (by simp; omega) (.int .i64 y)).setNew (Nat.le_refl _) _).setNew (Nat.le_refl _) _).setNew (Nat.le_refl _) _⟩
    exact (((hc3.only_new (a := ⟨w1.heap.size, 1, none⟩) (by simp; omega) (by simp; omega) (.int .i64 y)).only_new (by simp; omega) (by simp; omega) _).only_new (by simp; omega) (by simp; omega) _).only_new (by simp; omega) (by simp; omega) _
  have e1 : ((x : Int) == 1) = false := by simp; omega
  by_cases x2 : x = 2
  · subst x2
    go_wp2_with (go_at_call 35; refine (raw4 B p _ hc2).mono ?_; rintro e w3 ⟨⟨y, hy0, hy1, rfl⟩, hc3, ho3⟩; have tA3 := trio_only tA2 ho3 (by omega); have tC3 := trio_only tC2 ho3 (by omega); have hO3 := hO2.trans ho3; obtain ⟨a0, a1, a2⟩ := tA3.cells; obtain ⟨f0, f1, f2⟩ := tA3.frozen; obtain ⟨d0, d1, d2⟩ := tC3.cells; obtain ⟨e0, e1, e2⟩ := tC3.frozen)
    have tF := tA3.other (a := ⟨w1.heap.size, 2, none⟩) (.int .i64 y) (by simp; omega)
    have g0 := (tF.set0 (.int .i64 h)).cells.1
    have g1 := ((tF.set0 (.int .i64 h)).set1 (.int .i64 q)).cells.2.1
    have g2 := (((tF.set0 (.int .i64 h)).set1 (.int .i64 q)).set2 (.int .i64 y)).cells.2.2
    refine bodyPost_ret (v := (Value.agg #[Value.int IntKind.i64 (h), Value.int IntKind.i64 (q), Value.int IntKind.i64 (y)])) (by simp [results, Tryd.results21, go_sem, g0, g1, g2]) rfl ⟨⟨_, _, _, hh, hq, ⟨hy0, hy1⟩, rfl⟩, ?_, (((hO3.setNew (a := ⟨w1.heap.size, 2, none⟩) (by simp; omega) (.int .i64 y)).setNew (Nat.le_refl _) _).setNew (Nat.le_refl _) _).setNew (Nat.le_refl _) _⟩
    exact (((hc3.only_new (a := ⟨w1.heap.size, 2, none⟩) (by simp; omega) (by simp; omega) (.int .i64 y)).only_new (by simp; omega) (by simp; omega) _).only_new (by simp; omega) (by simp; omega) _).only_new (by simp; omega) (by simp; omega) _
  have e2 : ((x : Int) == 2) = false := by simp; omega
  obtain ⟨a0, a1, a2⟩ := tA2.cells
  obtain ⟨f0, f1, f2⟩ := tA2.frozen
  obtain ⟨d0, d1, d2⟩ := tC2.cells
  go_wp2_with fail
  have tF := tA2
  have g0 := (tF.set0 (.int .i64 h)).cells.1
  have g1 := ((tF.set0 (.int .i64 h)).set1 (.int .i64 q)).cells.2.1
  have g2 := (((tF.set0 (.int .i64 h)).set1 (.int .i64 q)).set2 (.int .i64 r)).cells.2.2
  refine bodyPost_ret (v := (Value.agg #[Value.int IntKind.i64 (h), Value.int IntKind.i64 (q), Value.int IntKind.i64 (r)])) (by simp [results, Tryd.results21, go_sem, g0, g1, g2]) rfl ⟨⟨_, _, _, hh, hq, hr, rfl⟩, ?_, (((hO2).setNew (Nat.le_refl _) _).setNew (Nat.le_refl _) _).setNew (Nat.le_refl _) _⟩
  exact (((hc2).only_new (by simp; omega) (by simp; omega) _).only_new (by simp; omega) (by simp; omega) _).only_new (by simp; omega) (by simp; omega) _

set_option maxHeartbeats 1000000 in
set_option maxRecDepth 100000 in
theorem draw_is (B : Nat) (a : Option Addr) (n c : Nat) (w : World) (hb : Bytes B w a n) (hB : B ≤ w.heap.size) :
    Calls Tryd.prog 7 #[.slice a n c] w fun e w' => IsAdr e ∧ Below w.heap.size w w' := by
  have tA := Trio.new 25 (.int .i64 0) (.int .i64 0) (.int .i64 0) w
  have hb0 : Below w.heap.size w (w.alloc (.cells #[.int .i64 0, .int .i64 0, .int .i64 0] 25)) := (Below.refl _ _).alloc (Nat.le_refl _) _
  go_enter Tryd.func7, Tryd.ntmps7
  go_wp2_with fail
  go_at_call 20
  refine (new_any B a n c _ (hb.below hb0) (by simp; omega)).mono ?_
  rintro e w1 ⟨rfl, hc1, hb1⟩
  have tA1 := tA.below hb1
  have hB1 := hb0.trans (hb1.mono hb0.size)
  have hs1 := hb1.size
  rw [size_alloc] at hs1
  rw [size_alloc] at hc1
  clear hb hb0 hb1 tA
  go_wp2_with fail
  go_at_call 21
  refine (any4 B _ _ hc1).mono ?_
  rintro e w2 ⟨⟨h, q, r, hh, hq, hr, rfl⟩, hc2, ho2⟩
  have tF := trio_only tA1 ho2 (by omega)
  have hB2 := hB1.trans (ho2.below (Nat.le_succ _) hB1.size)
  obtain ⟨a0, a1, a2⟩ := tF.cells
  obtain ⟨f0, f1, f2⟩ := tF.frozen
  clear tA1 hc1 hc2 ho2
  go_wp2_with fail
  have g0 := (tF.set0 (.int .i64 h)).cells.1
  have g1 := ((tF.set0 (.int .i64 h)).set1 (.int .i64 q)).cells.2.1
  have g2 := (((tF.set0 (.int .i64 h)).set1 (.int .i64 q)).set2 (.int .i64 r)).cells.2.2
  refine bodyPost_ret (v := (Value.agg #[Value.int IntKind.i64 (h), Value.int IntKind.i64 (q), Value.int IntKind.i64 (r)])) (by simp [results, Tryd.results7, go_sem, g0, g1, g2]) rfl ⟨⟨_, _, _, hh, hq, hr, rfl⟩, ((hB2.setCell (Nat.le_refl _) _).setCell (Nat.le_refl _) _).setCell (Nat.le_refl _) _⟩

def IsText64 (e : Ending) : Prop := ∃ s : ByteArray, s.size ≤ 64 ∧ e = .returned (.string s)
theorem isText64_in {zs : List ByteArray} {s : ByteArray} (hs : s ∈ zs) (h : ∀ z ∈ zs, z.size ≤ 64) : IsText64 (.returned (.string s)) := ⟨s, h s hs, rfl⟩

set_option maxHeartbeats 1000000 in
set_option maxRecDepth 100000 in
theorem draw_text (B : Nat) (a : Option Addr) (n c : Nat) (w : World) (hb : Bytes B w a n) (hB : B ≤ w.heap.size) :
    Calls Tryd.prog 11 #[.slice a n c] w fun e w' => IsText64 e ∧ Below w.heap.size w w' := by
  go_enter Tryd.func11, Tryd.ntmps11
  go_wp2_with fail
  go_at_call 20
  refine (new_any B a n c _ hb hB).mono ?_
  rintro e w1 ⟨rfl, hc1, hb1⟩
  go_wp2_with fail
  go_at_call 27
  refine (draw4 B _ _ hc1).mono ?_
  rintro e w2 ⟨⟨h, q, r, hh, hq, hr, rfl⟩, hc2, ho2⟩
  have hB2 := hb1.trans (ho2.below (Nat.le_refl _) hb1.size)
  go_wp2_with fail
  go_at_call 16
  refine (text_spec h q r _ hh.1 hh.2 hq.1 hq.2 hr.1 hr.2).mono ?_
  rintro e w3 ⟨rfl, hb3⟩
  have hB3 := hB2.trans (hb3.mono hB2.size)
  have hc3 := hc2.below hb3
  have hl : (⟨(atext h q r).toArray⟩ : ByteArray).size ≤ 62 := by
    show (atext h q r).toArray.size ≤ 62
    simpa using atext_len h q r
  generalize (⟨(atext h q r).toArray⟩ : ByteArray) = s at hl
  have m1 : ¬ 9223372036854775807 < s.size + 1 := by omega
  have m2 : ¬ 9223372036854775807 < 1 + s.size := by omega
  have m3 : ¬ 9223372036854775807 < s.size + 2 := by omega
  have e1 : (s ++ ⟨#[63]⟩).size = s.size + 1 := by rw [ByteArray.size_append]; rfl
  have e2 : (s ++ ⟨#[48]⟩).size = s.size + 1 := by rw [ByteArray.size_append]; rfl
  have e3 : (⟨#[48]⟩ ++ s).size = 1 + s.size := by rw [ByteArray.size_append]; rfl
  have e4 : (s ++ ⟨#[47, 49]⟩).size = s.size + 2 := by rw [ByteArray.size_append]; rfl
  have hall : ∀ z ∈ [s, s, s, s ++ ⟨#[63]⟩, s ++ ⟨#[48]⟩, ⟨#[48]⟩ ++ s, s ++ ⟨#[47, 49]⟩, ⟨#[49, 47, 50, 63, 48]⟩, ⟨#[49]⟩, ⟨#[]⟩, ⟨#[49, 47]⟩, ⟨#[49, 48, 47, 49]⟩, ⟨#[49, 47, 49, 48, 48]⟩, ⟨#[49, 47, 50, 63, 49, 48, 48]⟩, ⟨#[49, 63, 50]⟩], z.size ≤ 64 := by
    simp only [List.forall_mem_cons, e1, e2, e3, e4]
    refine ⟨by omega, by omega, by omega, by omega, by omega, by omega, by omega, by decide, by decide, by decide, by decide, by decide, by decide, by decide, by decide, ?_⟩
    intro z hz; cases hz
  clear e1 e2 e3 e4 hl
  go_wp2_with (go_at_call 28; refine (str_new B _ [s, s, s, s ++ ⟨#[63]⟩, s ++ ⟨#[48]⟩, ⟨#[48]⟩ ++ s, s ++ ⟨#[47, 49]⟩, ⟨#[49, 47, 50, 63, 48]⟩, ⟨#[49]⟩, ⟨#[]⟩, ⟨#[49, 47]⟩, ⟨#[49, 48, 47, 49]⟩, ⟨#[49, 47, 49, 48, 48]⟩, ⟨#[49, 47, 50, 63, 49, 48, 48]⟩, ⟨#[49, 63, 50]⟩] _ _ _ rfl _ _ rfl hc3 (by simp) (by simp)).mono ?_; rintro e w4 ⟨⟨y, hy, rfl⟩, hc4, ho4⟩)
  go_ret
  exact ⟨isText64_in hy hall, hB3.trans (ho4.below (Nat.le_refl _) hB3.size)⟩

def IsAdrs (e : Ending) : Prop := ∃ h p q h' p' q' : Int, I64 h ∧ I64 p ∧ I64 q ∧ I64 h' ∧ I64 p' ∧ I64 q' ∧ e = .returned (.tuple #[(Value.agg #[Value.int IntKind.i64 (h), Value.int IntKind.i64 (p), Value.int IntKind.i64 (q)]), (Value.agg #[Value.int IntKind.i64 (h'), Value.int IntKind.i64 (p'), Value.int IntKind.i64 (q')])])

set_option maxHeartbeats 1000000 in
set_option maxRecDepth 100000 in
theorem draw_two (B : Nat) (a : Option Addr) (n c : Nat) (w : World) (hb : Bytes B w a n) (hB : B ≤ w.heap.size) :
    Calls Tryd.prog 12 #[.slice a n c] w fun e w' => IsAdrs e ∧ Below w.heap.size w w' := by
  have tA := (Trio.new 25 (.int .i64 0) (.int .i64 0) (.int .i64 0) w).alloc (.cells #[.int .i64 0, .int .i64 0, .int .i64 0] 25)
  have tB := Trio.new 25 (.int .i64 0) (.int .i64 0) (.int .i64 0) (w.alloc (.cells #[.int .i64 0, .int .i64 0, .int .i64 0] 25))
  rw [size_alloc] at tB
  have hb0 : Below w.heap.size w ((w.alloc (.cells #[.int .i64 0, .int .i64 0, .int .i64 0] 25)).alloc (.cells #[.int .i64 0, .int .i64 0, .int .i64 0] 25)) := by repeat' (first | exact Below.refl _ _ | assumption | refine Below.setCell ?_ ?_ _ | refine Below.alloc ?_ ?_ _ | refine Adr.below_drewN ?_ _ | refine Below.drew ?_ | exact Nat.le_refl _ | omega | refine Adr.le_alloc ?_ | refine Adr.le_set ?_ | refine Adr.le_drewN ?_ | refine Adr.le_drew ?_)
  go_enter Tryd.func12, Tryd.ntmps12
  go_wp2_with fail
  go_at_call 20
  refine (new_any B a n c _ (hb.below hb0) (by simp; omega)).mono ?_
  rintro e w1 ⟨rfl, hc1, hb1⟩
  have tA1 := tA.below hb1
  have tB1 := tB.below hb1
  have hB1 := hb0.trans (hb1.mono hb0.size)
  have hs1 := hc1.lt
  rw [size_alloc, size_alloc] at hc1 hs1
  clear hb hb0 hb1 tA tB
  go_wp2_with fail
  go_at_call 21
  refine (any4 B _ _ hc1).mono ?_
  rintro e w2 ⟨⟨h, q, r, hh, hq, hr, rfl⟩, hc2, ho2⟩
  have hs2 := hc2.lt
  have tA2 := (trio_only tA1 ho2 (by omega)).alloc (.cells #[.int .i64 h, .int .i64 q, .int .i64 r] 25)
  have tB2 := (trio_only tB1 ho2 (by omega)).alloc (.cells #[.int .i64 h, .int .i64 q, .int .i64 r] 25)
  have tC2 := Trio.new 25 (.int .i64 h) (.int .i64 q) (.int .i64 r) w2
  have hB2 := hB1.trans (ho2.below (B := w.heap.size) (by omega) hB1.size)
  have hB2' := hB2.alloc hB2.size (.cells #[.int .i64 h, .int .i64 q, .int .i64 r] 25)
  have hc2' : Cur 55 B (w.heap.size + 1 + 1) (w2.alloc (.cells #[.int .i64 h, .int .i64 q, .int .i64 r] 25)) := hc2.below ((Below.refl _ _).alloc (Nat.le_refl _) _)
  clear tA1 tB1 hc1 hc2 ho2 hB1 hB2
  have hcd : Cur 55 B (w.heap.size + 1 + 1) (w2.alloc (.cells #[.int .i64 h, .int .i64 q, .int .i64 r] 25)).drew := hc2'
  have tAd := tA2.drew
  have tBd := tB2.drew
  have tCd := tC2.drew
  have hBd := hB2'.drew
  obtain ⟨d0, d1, d2⟩ := tCd.cells
  clear hc2' tA2 tB2 tC2 hB2'
  go_wp2_with fail
  go_region_with (go_at_call 21; refine (any4 B _ _ hcd).mono ?_; rintro e w3 ⟨⟨h', q', r', hh', hq', hr', rfl⟩, hc3, ho3⟩; have tA3 := trio_only tAd ho3 (by omega); have tB3 := trio_only tBd ho3 (by omega); have tC3 := trio_only tCd ho3 (by omega); have hB3 := hBd.trans (ho3.below (B := w.heap.size) (by omega) hBd.size); obtain ⟨a0, a1, a2⟩ := tA3.cells; obtain ⟨f0, f1, f2⟩ := tA3.frozen; obtain ⟨b0, b1, b2⟩ := tB3.cells; obtain ⟨g0, g1, g2⟩ := tB3.frozen; obtain ⟨n0, n1, n2⟩ := tC3.cells)
  all_goals
    clear a0 a1 a2 f0 f1 f2 b0 b1 b2 g0 g1 g2 n0 n1 n2
    have V := ((tB3.other (a := ⟨w.heap.size, 0, none⟩) (.int .i64 h) (by simp)).other (a := ⟨w.heap.size, 1, none⟩) (.int .i64 q) (by simp)).other (a := ⟨w.heap.size, 2, none⟩) (.int .i64 r) (by simp)
    have u0 := (tA3.set0 (.int .i64 h)).cells.1
    have u1 := ((tA3.set0 (.int .i64 h)).set1 (.int .i64 q)).cells.2.1
    have u2 := (((tA3.set0 (.int .i64 h)).set1 (.int .i64 q)).set2 (.int .i64 r)).cells.2.2
    have v0 := (V.set0 (.int .i64 h')).cells.1
    have v1 := ((V.set0 (.int .i64 h')).set1 (.int .i64 q')).cells.2.1
    have v2 := (((V.set0 (.int .i64 h')).set1 (.int .i64 q')).set2 (.int .i64 r')).cells.2.2
    have hF := (((((hB3.setCell (p := ⟨w.heap.size, 0, none⟩) (Nat.le_refl _) (.int .i64 h)).setCell (p := ⟨w.heap.size, 1, none⟩) (Nat.le_refl _) (.int .i64 q)).setCell (p := ⟨w.heap.size, 2, none⟩) (Nat.le_refl _) (.int .i64 r)).setCell (p := ⟨w.heap.size + 1, 0, none⟩) (Nat.le_succ _) (.int .i64 h')).setCell (p := ⟨w.heap.size + 1, 1, none⟩) (Nat.le_succ _) (.int .i64 q')).setCell (p := ⟨w.heap.size + 1, 2, none⟩) (Nat.le_succ _) (.int .i64 r')
    go_wp2
    refine bodyPost_ret (v := .tuple #[(Value.agg #[Value.int IntKind.i64 (h), Value.int IntKind.i64 (q), Value.int IntKind.i64 (r)]), (Value.agg #[Value.int IntKind.i64 (h'), Value.int IntKind.i64 (q'), Value.int IntKind.i64 (r')])]) (by simp [results, Tryd.results12, go_sem, u0, u1, u2, v0, v1, v2]) rfl ⟨⟨_, _, _, _, _, _, hh, hq, hr, hh', hq', hr', rfl⟩, hF⟩
end Go.Proofs.YtoiaigmfoglcbaaDoor.Draw
