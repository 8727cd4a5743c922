/-
  Resources by value: a copy, the test for equality, the sizes, marks.
  Conditions: the body is a row in memory, of at most 2^45 numbers.
-/
import Derived.Test.YtagnhfalmefbhaaInts
import Derived.Test.YtagnhfalmefbhaaAdr
import Derived.Test.YtagnhfalmefbhaaQuint
namespace Go.Proofs.Ytagnhfalmefbhaa.Res
open Go Go.RowKit Go.Proofs.Ytagnhfalmefbhaa.Mem Go.Proofs.Ytagnhfalmefbhaa.Adr

theorem Quint.zone {T : TypeId} {b lo hi : Nat} {x0 x1 x2 x3 x4 : Value} {w w' : World} (h : Quint T b x0 x1 x2 x3 x4 w) (hz : Zone lo hi w w') (hd : b < lo ∨ hi ≤ b) : Quint T b x0 x1 x2 x3 x4 w' := (hz.block b h.lt hd).trans h

/-- What a copy hands back: a resource whose body is a row of the call's own. -/
def Copied (lo : Nat) (k h p q : Int) (n : Nat) (zs : List Int) (w : World) (e : Ending) (w' : World) : Prop :=
  ∃ a c, e = .returned (Value.agg #[Value.int IntKind.i64 (k), Value.slice (a) (n) (c), Value.int IntKind.i64 (h), Value.int IntKind.i64 (p), Value.int IntKind.i64 (q)]) ∧ Own .i64 lo w'.heap.size w' a n zs ∧ n ≤ c ∧ c ≤ maxLen ∧ Below lo w w'

set_option maxHeartbeats 800000 in
set_option maxRecDepth 100000 in
theorem to_res (lo hi : Nat) (k h p q : Int) (w : World) (a : Option Addr) (n c : Nat) (zs : List Int) (hr : Row .i64 lo hi w a n zs) (hh : hi ≤ w.heap.size) (hn : n ≤ 35184372088832) :
    Calls Try.prog 22 #[(Value.agg #[Value.int IntKind.i64 (k), Value.slice (a) (n) (c), Value.int IntKind.i64 (h), Value.int IntKind.i64 (p), Value.int IntKind.i64 (q)])] w (Copied w.heap.size k h p q n zs w) := by
  have hB1 : Below w.heap.size w (((w.alloc (.cells #[.int .i64 k, .slice a n c, .int .i64 h, .int .i64 p, .int .i64 q] 52)).alloc (.cells #[.int .i64 0, .slice none 0 0, .int .i64 0, .int .i64 0, .int .i64 0] 39)).alloc (.cells #[.int .i64 k, .slice none 0 0, .int .i64 0, .int .i64 0, .int .i64 0] 39)) := by repeat' (first | exact Below.refl _ _ | assumption | refine Below.setCell ?_ ?_ _ | refine Below.alloc ?_ ?_ _ | refine Adr.below_drewN ?_ _ | refine Below.drew ?_ | exact Nat.le_refl _ | omega | (dsimp only; omega) | refine Adr.le_alloc ?_ | refine Adr.le_set ?_ | refine Adr.le_drewN ?_ | refine Adr.le_drew ?_)
  have hS1 : (((w.alloc (.cells #[.int .i64 k, .slice a n c, .int .i64 h, .int .i64 p, .int .i64 q] 52)).alloc (.cells #[.int .i64 0, .slice none 0 0, .int .i64 0, .int .i64 0, .int .i64 0] 39)).alloc (.cells #[.int .i64 k, .slice none 0 0, .int .i64 0, .int .i64 0, .int .i64 0] 39)).heap.size = w.heap.size + 3 := by simp only [size_alloc]
  have qA : Quint 52 w.heap.size (.int .i64 k) (.slice a n c) (.int .i64 h) (.int .i64 p) (.int .i64 q) (((w.alloc (.cells #[.int .i64 k, .slice a n c, .int .i64 h, .int .i64 p, .int .i64 q] 52)).alloc (.cells #[.int .i64 0, .slice none 0 0, .int .i64 0, .int .i64 0, .int .i64 0] 39)).alloc (.cells #[.int .i64 k, .slice none 0 0, .int .i64 0, .int .i64 0, .int .i64 0] 39)) := ((Quint.new _ _ _ _ _ _ w).alloc _).alloc _
  have qR : Quint 39 (w.heap.size + 1) (.int .i64 0) (.slice none 0 0) (.int .i64 0) (.int .i64 0) (.int .i64 0) (((w.alloc (.cells #[.int .i64 k, .slice a n c, .int .i64 h, .int .i64 p, .int .i64 q] 52)).alloc (.cells #[.int .i64 0, .slice none 0 0, .int .i64 0, .int .i64 0, .int .i64 0] 39)).alloc (.cells #[.int .i64 k, .slice none 0 0, .int .i64 0, .int .i64 0, .int .i64 0] 39)) := by have := (Quint.new 39 (.int .i64 0) (.slice none 0 0) (.int .i64 0) (.int .i64 0) (.int .i64 0) (w.alloc (.cells #[.int .i64 k, .slice a n c, .int .i64 h, .int .i64 p, .int .i64 q] 52))).alloc (.cells #[.int .i64 k, .slice none 0 0, .int .i64 0, .int .i64 0, .int .i64 0] 39); rw [size_alloc] at this; exact this
  have qO : Quint 39 (w.heap.size + 1 + 1) (.int .i64 k) (.slice none 0 0) (.int .i64 0) (.int .i64 0) (.int .i64 0) (((w.alloc (.cells #[.int .i64 k, .slice a n c, .int .i64 h, .int .i64 p, .int .i64 q] 52)).alloc (.cells #[.int .i64 0, .slice none 0 0, .int .i64 0, .int .i64 0, .int .i64 0] 39)).alloc (.cells #[.int .i64 k, .slice none 0 0, .int .i64 0, .int .i64 0, .int .i64 0] 39)) := by have := Quint.new 39 (.int .i64 k) (.slice none 0 0) (.int .i64 0) (.int .i64 0) (.int .i64 0) ((w.alloc (.cells #[.int .i64 k, .slice a n c, .int .i64 h, .int .i64 p, .int .i64 q] 52)).alloc (.cells #[.int .i64 0, .slice none 0 0, .int .i64 0, .int .i64 0, .int .i64 0] 39)); rw [size_alloc, size_alloc] at this; exact this
  have hT := Nts.to_any lo hi (((w.alloc (.cells #[.int .i64 k, .slice a n c, .int .i64 h, .int .i64 p, .int .i64 q] 52)).alloc (.cells #[.int .i64 0, .slice none 0 0, .int .i64 0, .int .i64 0, .int .i64 0] 39)).alloc (.cells #[.int .i64 k, .slice none 0 0, .int .i64 0, .int .i64 0, .int .i64 0] 39)) a n c zs (hr.under hB1 hh) (Nat.le_trans hh hB1.size) hn
  go_enter Try.func22, Try.ntmps22
  go_wp2_with fail
  go_at_call 52
  refine hT.mono ?_
  rintro e w1 ⟨a', c', rfl, hO, hnc, hcm, hb1⟩
  have qA1 := qA.below hb1
  have qR1 := qR.below hb1
  have qO1 := qO.below hb1
  have hB2 := hB1.trans (hb1.mono hB1.size)
  have hS2 := hb1.size
  rw [hS1] at hS2 hO
  clear hT hr hb1 qA qR qO hB1 hS1
  obtain ⟨a0, a1, a2, a3, a4⟩ := qA1.cells
  obtain ⟨r0, r1, r2, r3, r4⟩ := qR1.cells
  obtain ⟨o0, o1, o2, o3, o4⟩ := qO1.cells
  obtain ⟨f0, f1, f2, f3, f4⟩ := qO1.frozen
  obtain ⟨fr0, fr1, fr2, fr3, fr4⟩ := qR1.frozen
  have qO2 := qO1.set1 (.slice a' n c')
  have qR2 := qR1.other (a := ⟨w.heap.size + 1 + 1, 1, none⟩) (.slice a' n c') (by simp)
  have hB3 : Below w.heap.size w (w1.setCell ⟨w.heap.size + 1 + 1, 1, none⟩ (.slice a' n c')) := by repeat' (first | exact Below.refl _ _ | assumption | refine Below.setCell ?_ ?_ _ | refine Below.alloc ?_ ?_ _ | refine Adr.below_drewN ?_ _ | refine Below.drew ?_ | exact Nat.le_refl _ | omega | (dsimp only; omega) | refine Adr.le_alloc ?_ | refine Adr.le_set ?_ | refine Adr.le_drewN ?_ | refine Adr.le_drew ?_)
  go_wp2_with fail
  go_at_call 57
  refine (to_addr h p q _).mono ?_
  rintro e w2 ⟨rfl, hb2⟩
  have qO3 := qO2.below hb2
  have qR3 := qR2.below hb2
  have hO2 := (hO.zone ((Zone.refl 0 (w.heap.size + 3) w1).setCell (b := w.heap.size + 1 + 1) (o := 1) (by omega) (.slice a' n c')) (Or.inr (Nat.le_refl _))).below hb2
  have hB4 := hB3.trans (hb2.mono hB3.size)
  have hS3 := hb2.size
  rw [size_set] at hS3
  clear qO1 qR1 qA1 a0 a1 a2 a3 a4 o0 o1 o2 o3 o4 r0 r1 r2 r3 r4 f0 f1 f2 f3 f4 fr0 fr1 fr2 fr3 fr4 qO2 qR2 hB2 hB3 hb2 hO
  obtain ⟨o0, o1, o2, o3, o4⟩ := qO3.cells
  obtain ⟨r0, r1, r2, r3, r4⟩ := qR3.cells
  obtain ⟨f0, f1, f2, f3, f4⟩ := qO3.frozen
  obtain ⟨fr0, fr1, fr2, fr3, fr4⟩ := qR3.frozen
  go_wp2
  obtain ⟨g0, g1, g2, g3, g4⟩ := ((((((((qR3.other (a := ⟨w.heap.size + 1 + 1, 2, none⟩) (.int .i64 h) (by simp)).other (a := ⟨w.heap.size + 1 + 1, 3, none⟩) (.int .i64 p) (by simp)).other (a := ⟨w.heap.size + 1 + 1, 4, none⟩) (.int .i64 q) (by simp)).set0 (.int .i64 k)).set1 (.slice a' n c')).set2 (.int .i64 h)).set3 (.int .i64 p)).set4 (.int .i64 q)).cells
  refine bodyPost_ret (v := (Value.agg #[Value.int IntKind.i64 (k), Value.slice (a') (n) (c'), Value.int IntKind.i64 (h), Value.int IntKind.i64 (p), Value.int IntKind.i64 (q)])) (by simp [results, Try.results22, go_sem, g0, g1, g2, g3, g4]) rfl ⟨a', c', rfl, (hO2.zone (lo' := 0) (hi' := w.heap.size + 3) ?_ (Or.inr (Nat.le_refl _))).more (by omega) (by simp only [size_set]; omega), hnc, hcm, ?_⟩
  · iterate 8 (refine Zone.setCell ?_ ⟨by omega, by omega⟩ _)
    exact Zone.refl _ _ _
  · iterate 8 (refine Below.setCell ?_ (by dsimp only; omega) _)
    exact hB4

/-- Memory's room, told by a resource's size. -/
theorem sz_ints (a : Option Addr) (n c : Nat) (left : Int) (w : World) (hn : (n : Int) ≤ 9223372036854775807) (hl : 0 ≤ left) (hl' : left ≤ 1048576) :
    Calls Try.prog 50 #[.slice a n c, .int .i64 left] w fun e w' => e = .returned (.int .i64 (if (n : Int) ≤ left then left - n else -1)) ∧ w' = w := by
  by_cases h : (n : Int) ≤ left
  · rw [if_pos h]
    have e1 : IntKind.wrap .i64 (left - n) = left - n := by rw [IntKind.wrap_i64]; omega
    have d : decide (left - (n : Int) < 0) = false := by simp; omega
    go_enter Try.func50, Try.ntmps50
    go_wp2
    go_ret
    exact ⟨rfl, rfl⟩
  · rw [if_neg h]
    have e1 : IntKind.wrap .i64 (left - n) = left - n := by rw [IntKind.wrap_i64]; omega
    have d : decide (left - (n : Int) < 0) = true := by simp; omega
    go_enter Try.func50, Try.ntmps50
    go_wp2
    go_ret
    exact ⟨rfl, rfl⟩

set_option maxRecDepth 100000 in
theorem sz_res (k h p q : Int) (a : Option Addr) (n c : Nat) (left : Int) (w : World) (hn : (n : Int) ≤ 9223372036854775807) (hl : 0 ≤ left) (hl' : left ≤ 1048576) :
    Calls Try.prog 20 #[(Value.agg #[Value.int IntKind.i64 (k), Value.slice (a) (n) (c), Value.int IntKind.i64 (h), Value.int IntKind.i64 (p), Value.int IntKind.i64 (q)]), .int .i64 left] w fun e w' => e = .returned (.int .i64 (if (n : Int) ≤ left then left - n else -1)) ∧ Below w.heap.size w w' := by
  have hS := fun w1 => sz_ints a n c left w1 hn hl hl'
  by_cases h : (n : Int) ≤ left
  · simp only [if_pos h] at hS ⊢
    have d : decide (left - (n : Int) < 0) = false := by simp; omega
    go_enter Try.func20, Try.ntmps20
    go_wp2_with fail
    go_at_call 50
    refine (hS _).mono ?_
    rintro e w1 ⟨rfl, rfl⟩
    go_wp2
    go_ret
    exact ⟨rfl, by repeat' (first | exact Below.refl _ _ | assumption | refine Below.setCell ?_ ?_ _ | refine Below.alloc ?_ ?_ _ | refine Adr.below_drewN ?_ _ | refine Below.drew ?_ | exact Nat.le_refl _ | omega | (dsimp only; omega) | refine Adr.le_alloc ?_ | refine Adr.le_set ?_ | refine Adr.le_drewN ?_ | refine Adr.le_drew ?_)⟩
  · simp only [if_neg h] at hS ⊢
    go_enter Try.func20, Try.ntmps20
    go_wp2_with fail
    go_at_call 50
    refine (hS _).mono ?_
    rintro e w1 ⟨rfl, rfl⟩
    go_wp2
    go_ret
    exact ⟨rfl, by repeat' (first | exact Below.refl _ _ | assumption | refine Below.setCell ?_ ?_ _ | refine Below.alloc ?_ ?_ _ | refine Adr.below_drewN ?_ _ | refine Below.drew ?_ | exact Nat.le_refl _ | omega | (dsimp only; omega) | refine Adr.le_alloc ?_ | refine Adr.le_set ?_ | refine Adr.le_drewN ?_ | refine Adr.le_drew ?_)⟩

set_option maxHeartbeats 800000 in
set_option maxRecDepth 100000 in
theorem eq_res (l1 h1 l2 h2 : Nat) (k h p q : Int) (w : World) (a b : Option Addr) (n c d : Nat) (zs : List Int) (ha : Row .i64 l1 h1 w a n zs) (hb : Row .i64 l2 h2 w b n zs) (hn : n ≤ 9223372036854775807) :
    Calls Try.prog 23 #[(Value.agg #[Value.int IntKind.i64 (k), Value.slice (a) (n) (c), Value.int IntKind.i64 (h), Value.int IntKind.i64 (p), Value.int IntKind.i64 (q)]), (Value.agg #[Value.int IntKind.i64 (k), Value.slice (b) (n) (d), Value.int IntKind.i64 (h), Value.int IntKind.i64 (p), Value.int IntKind.i64 (q)])] w fun e w' => e = .returned (.bool true) ∧ Below w.heap.size w w' := by
  have qA := (Quint.new 39 (.int .i64 k) (.slice a n c) (.int .i64 h) (.int .i64 p) (.int .i64 q) w).alloc (.cells #[.int .i64 k, .slice b n d, .int .i64 h, .int .i64 p, .int .i64 q] 39)
  have qB := Quint.new 39 (.int .i64 k) (.slice b n d) (.int .i64 h) (.int .i64 p) (.int .i64 q) (w.alloc (.cells #[.int .i64 k, .slice a n c, .int .i64 h, .int .i64 p, .int .i64 q] 39))
  have hB1 : Below w.heap.size w ((w.alloc (.cells #[.int .i64 k, .slice a n c, .int .i64 h, .int .i64 p, .int .i64 q] 39)).alloc (.cells #[.int .i64 k, .slice b n d, .int .i64 h, .int .i64 p, .int .i64 q] 39)) := by repeat' (first | exact Below.refl _ _ | assumption | refine Below.setCell ?_ ?_ _ | refine Below.alloc ?_ ?_ _ | refine Adr.below_drewN ?_ _ | refine Below.drew ?_ | exact Nat.le_refl _ | omega | (dsimp only; omega) | refine Adr.le_alloc ?_ | refine Adr.le_set ?_ | refine Adr.le_drewN ?_ | refine Adr.le_drew ?_)
  rw [size_alloc] at qB
  have hE := Nts.eq_same l1 h1 l2 h2 _ a b n c d zs (ha.below hB1) (hb.below hB1) hn
  go_enter Try.func23, Try.ntmps23
  go_wp2_with fail
  go_at_call 54
  refine hE.mono ?_
  rintro e w1 ⟨rfl, m, rfl⟩
  have qA1 := qA.drewN m
  have qB1 := qB.drewN m
  have hB2 := Mem.below_drewN hB1 m
  obtain ⟨a0, a1, a2, a3, a4⟩ := qA1.cells
  obtain ⟨b0, b1, b2, b3, b4⟩ := qB1.cells
  clear ha hb hE
  go_wp2_with fail
  go_at_call 58
  refine (eq_addr h p q _).mono ?_
  rintro e w2 ⟨rfl, hb2⟩
  go_wp2
  go_ret
  exact ⟨rfl, hB2.trans (hb2.mono hB2.size)⟩

end Go.Proofs.Ytagnhfalmefbhaa.Res

