/-
  Whether a resource is valid: the program, which sees it by its kind (four types behind an interface), and the model.
  Conditions: the body is a row in memory.
-/
import Derived.Test.YtldpgkbemgpacaaRes
import Derived.Test.YtldpgkbemgpacaaResOk
import Derived.Handy
namespace Go.Proofs.Ytldpgkbemgpacaa.Res
open Go Go.RowKit Go.Proofs.Ytldpgkbemgpacaa.Mem Go.Proofs.Ytldpgkbemgpacaa.Adr Go.Proofs.Ytldpgkbemgpacaa.Range

def zero3 (h p q : Int) : Bool := decide (h = 0 ∧ p = 0 ∧ q = 0)
theorem zero3_yes : zero3 0 0 0 = true := rfl
theorem zero3_no {h p q : Int} (e : ¬ (h = 0 ∧ p = 0 ∧ q = 0)) : zero3 h p q = false := by unfold zero3; exact decide_eq_false e
/-- Whether a resource is valid. -/
def okR (k h p q : Int) (n : Nat) (zs : List Int) : Bool :=
  if k = 1 ∨ k = 2 then decide (n ≤ 6) && (allB zs && zero3 h p q) else if k = 3 then decide (n = 0) && okA h p q else if k = 4 then decide (n = 0) && zero3 h p q else false

set_option maxRecDepth 100000 in
theorem answer_content (k h p q : Int) (w : World) (a : Option Addr) (n c : Nat) (hk : k = 1 ∨ k = 2) :
    Calls Try.prog 85 #[(Value.agg #[Value.int IntKind.i64 (k), Value.slice (a) (n) (c), Value.int IntKind.i64 (h), Value.int IntKind.i64 (p), Value.int IntKind.i64 (q)])] w fun e w' => e = .returned (.iface 127 (Value.agg #[Value.int IntKind.i64 (k), Value.slice (a) (n) (c), Value.int IntKind.i64 (h), Value.int IntKind.i64 (p), Value.int IntKind.i64 (q)])) ∧ Below w.heap.size w w' := by
  rcases hk with rfl | rfl
  all_goals
    go_enter Try.func85, Try.ntmps85
    go_wp2
    go_ret
    exact ⟨rfl, by repeat' (first | exact Below.refl _ _ | assumption | refine Below.setCell ?_ ?_ _ | refine Below.alloc ?_ ?_ _ | refine Adr.below_drewN ?_ _ | refine Below.drew ?_ | exact Nat.le_refl _ | omega | (dsimp only; omega) | refine Adr.le_alloc ?_ | refine Adr.le_set ?_ | refine Adr.le_drewN ?_ | refine Adr.le_drew ?_)⟩
set_option maxRecDepth 100000 in
theorem answer_move (h p q : Int) (w : World) (a : Option Addr) (n c : Nat) :
    Calls Try.prog 85 #[(Value.agg #[Value.int IntKind.i64 (3), Value.slice (a) (n) (c), Value.int IntKind.i64 (h), Value.int IntKind.i64 (p), Value.int IntKind.i64 (q)])] w fun e w' => e = .returned (.iface 128 (Value.agg #[Value.int IntKind.i64 (3), Value.slice (a) (n) (c), Value.int IntKind.i64 (h), Value.int IntKind.i64 (p), Value.int IntKind.i64 (q)])) ∧ Below w.heap.size w w' := by
  go_enter Try.func85, Try.ntmps85
  go_wp2
  go_ret
  exact ⟨rfl, by repeat' (first | exact Below.refl _ _ | assumption | refine Below.setCell ?_ ?_ _ | refine Below.alloc ?_ ?_ _ | refine Adr.below_drewN ?_ _ | refine Below.drew ?_ | exact Nat.le_refl _ | omega | (dsimp only; omega) | refine Adr.le_alloc ?_ | refine Adr.le_set ?_ | refine Adr.le_drewN ?_ | refine Adr.le_drew ?_)⟩
set_option maxRecDepth 100000 in
theorem answer_absence (h p q : Int) (w : World) (a : Option Addr) (n c : Nat) :
    Calls Try.prog 85 #[(Value.agg #[Value.int IntKind.i64 (4), Value.slice (a) (n) (c), Value.int IntKind.i64 (h), Value.int IntKind.i64 (p), Value.int IntKind.i64 (q)])] w fun e w' => e = .returned (.iface 129 (Value.agg #[Value.int IntKind.i64 (4), Value.slice (a) (n) (c), Value.int IntKind.i64 (h), Value.int IntKind.i64 (p), Value.int IntKind.i64 (q)])) ∧ Below w.heap.size w w' := by
  go_enter Try.func85, Try.ntmps85
  go_wp2
  go_ret
  exact ⟨rfl, by repeat' (first | exact Below.refl _ _ | assumption | refine Below.setCell ?_ ?_ _ | refine Below.alloc ?_ ?_ _ | refine Adr.below_drewN ?_ _ | refine Below.drew ?_ | exact Nat.le_refl _ | omega | (dsimp only; omega) | refine Adr.le_alloc ?_ | refine Adr.le_set ?_ | refine Adr.le_drewN ?_ | refine Adr.le_drew ?_)⟩
set_option maxRecDepth 100000 in
theorem answer_stray (k h p q : Int) (w : World) (a : Option Addr) (n c : Nat) (hk : ¬ (k = 1 ∨ k = 2)) (h3 : ¬ k = 3) (h4 : ¬ k = 4) :
    Calls Try.prog 85 #[(Value.agg #[Value.int IntKind.i64 (k), Value.slice (a) (n) (c), Value.int IntKind.i64 (h), Value.int IntKind.i64 (p), Value.int IntKind.i64 (q)])] w fun e w' => e = .returned (.iface 130 (Value.agg #[Value.int IntKind.i64 (k), Value.slice (a) (n) (c), Value.int IntKind.i64 (h), Value.int IntKind.i64 (p), Value.int IntKind.i64 (q)])) ∧ Below w.heap.size w w' := by
  have k1 : ¬ k = 1 := fun e => hk (Or.inl e)
  have k2 : ¬ k = 2 := fun e => hk (Or.inr e)
  clear hk
  go_enter Try.func85, Try.ntmps85
  go_wp2
  go_ret
  exact ⟨rfl, by repeat' (first | exact Below.refl _ _ | assumption | refine Below.setCell ?_ ?_ _ | refine Below.alloc ?_ ?_ _ | refine Adr.below_drewN ?_ _ | refine Below.drew ?_ | exact Nat.le_refl _ | omega | (dsimp only; omega) | refine Adr.le_alloc ?_ | refine Adr.le_set ?_ | refine Adr.le_drewN ?_ | refine Adr.le_drew ?_)⟩

set_option maxHeartbeats 800000 in
set_option maxRecDepth 100000 in
theorem sound_content (lo hi : Nat) (k h p q : Int) (w : World) (a : Option Addr) (n c : Nat) (zs : List Int) (hr : Row .i64 lo hi w a n zs) :
    Calls Try.prog 119 #[(Value.agg #[Value.int IntKind.i64 (k), Value.slice (a) (n) (c), Value.int IntKind.i64 (h), Value.int IntKind.i64 (p), Value.int IntKind.i64 (q)])] w fun e w' => e = .returned (.bool (decide (n ≤ 6) && (allB zs && zero3 h p q))) ∧ Below w.heap.size w w' := by
  have hB : Below w.heap.size w (w.alloc (.cells #[.int .i64 k, .slice a n c, .int .i64 h, .int .i64 p, .int .i64 q] 127)) := by repeat' (first | exact Below.refl _ _ | assumption | refine Below.setCell ?_ ?_ _ | refine Below.alloc ?_ ?_ _ | refine Adr.below_drewN ?_ _ | refine Below.drew ?_ | exact Nat.le_refl _ | omega | (dsimp only; omega) | refine Adr.le_alloc ?_ | refine Adr.le_set ?_ | refine Adr.le_drewN ?_ | refine Adr.le_drew ?_)
  have Q := Quint.new 127 (.int .i64 k) (.slice a n c) (.int .i64 h) (.int .i64 p) (.int .i64 q) w
  by_cases h6 : n ≤ 6
  · have hE := bytes_impl lo hi _ a n c zs (hr.below hB) (by omega)
    have d6 : decide ((n : Int) ≤ 6) = true := by simp; omega
    rw [decide_eq_true h6, Bool.true_and]
    cases hb : allB zs
    · rw [hb] at hE
      rw [Bool.false_and]
      go_enter Try.func119, Try.ntmps119
      go_wp2_with fail
      go_at_call 120
      refine hE.mono ?_
      rintro e w1 ⟨rfl, hb1⟩
      go_wp2
      go_ret
      exact ⟨rfl, hB.trans (hb1.mono hB.size)⟩
    · rw [hb] at hE
      rw [Bool.true_and]
      go_enter Try.func119, Try.ntmps119
      go_wp2_with fail
      go_at_call 120
      refine hE.mono ?_
      rintro e w1 ⟨rfl, hb1⟩
      obtain ⟨q0, q1, q2, q3, q4⟩ := (Q.below hb1).cells
      go_wp2
      all_goals
        go_ret
        exact ⟨by simp [zero3, *], hB.trans (hb1.mono hB.size)⟩
  · have d6 : decide ((n : Int) ≤ 6) = false := by simp; omega
    rw [decide_eq_false h6, Bool.false_and]
    go_enter Try.func119, Try.ntmps119
    go_wp2
    go_ret
    exact ⟨rfl, hB⟩

set_option maxHeartbeats 800000 in
set_option maxRecDepth 100000 in
theorem sound_move (k h p q : Int) (w : World) (a : Option Addr) (n c : Nat) :
    Calls Try.prog 121 #[(Value.agg #[Value.int IntKind.i64 (k), Value.slice (a) (n) (c), Value.int IntKind.i64 (h), Value.int IntKind.i64 (p), Value.int IntKind.i64 (q)])] w fun e w' => e = .returned (.bool (decide (n = 0) && okA h p q)) ∧ Below w.heap.size w w' := by
  have hB : Below w.heap.size w (w.alloc (.cells #[.int .i64 k, .slice a n c, .int .i64 h, .int .i64 p, .int .i64 q] 128)) := by repeat' (first | exact Below.refl _ _ | assumption | refine Below.setCell ?_ ?_ _ | refine Below.alloc ?_ ?_ _ | refine Adr.below_drewN ?_ _ | refine Below.drew ?_ | exact Nat.le_refl _ | omega | (dsimp only; omega) | refine Adr.le_alloc ?_ | refine Adr.le_set ?_ | refine Adr.le_drewN ?_ | refine Adr.le_drew ?_)
  by_cases h0 : n = 0
  · subst h0
    rw [show decide ((0 : Nat) = 0) = true from rfl, Bool.true_and]
    go_enter Try.func121, Try.ntmps121
    go_wp2_with fail
    go_at_call 74
    refine (is_impl h p q _).mono ?_
    rintro e w1 ⟨rfl, hb1⟩
    go_wp2
    go_ret
    exact ⟨rfl, hB.trans (hb1.mono hB.size)⟩
  · have d0 : ¬ ((n : Int) = 0) := by omega
    rw [decide_eq_false h0, Bool.false_and]
    go_enter Try.func121, Try.ntmps121
    go_wp2
    go_ret
    exact ⟨rfl, hB⟩

set_option maxHeartbeats 800000 in
set_option maxRecDepth 100000 in
theorem sound_absence (k h p q : Int) (w : World) (a : Option Addr) (n c : Nat) :
    Calls Try.prog 122 #[(Value.agg #[Value.int IntKind.i64 (k), Value.slice (a) (n) (c), Value.int IntKind.i64 (h), Value.int IntKind.i64 (p), Value.int IntKind.i64 (q)])] w fun e w' => e = .returned (.bool (decide (n = 0) && zero3 h p q)) ∧ Below w.heap.size w w' := by
  by_cases h0 : n = 0
  · subst h0
    rw [show decide ((0 : Nat) = 0) = true from rfl, Bool.true_and]
    go_enter Try.func122, Try.ntmps122
    go_wp2
    all_goals
      go_ret
      exact ⟨by simp [zero3, *], by repeat' (first | exact Below.refl _ _ | assumption | refine Below.setCell ?_ ?_ _ | refine Below.alloc ?_ ?_ _ | refine Adr.below_drewN ?_ _ | refine Below.drew ?_ | exact Nat.le_refl _ | omega | (dsimp only; omega) | refine Adr.le_alloc ?_ | refine Adr.le_set ?_ | refine Adr.le_drewN ?_ | refine Adr.le_drew ?_)⟩
  · have d0 : ¬ ((n : Int) = 0) := by omega
    rw [decide_eq_false h0, Bool.false_and]
    go_enter Try.func122, Try.ntmps122
    go_wp2
    go_ret
    exact ⟨rfl, by repeat' (first | exact Below.refl _ _ | assumption | refine Below.setCell ?_ ?_ _ | refine Below.alloc ?_ ?_ _ | refine Adr.below_drewN ?_ _ | refine Below.drew ?_ | exact Nat.le_refl _ | omega | (dsimp only; omega) | refine Adr.le_alloc ?_ | refine Adr.le_set ?_ | refine Adr.le_drewN ?_ | refine Adr.le_drew ?_)⟩

set_option maxRecDepth 100000 in
theorem sound_stray (k h p q : Int) (w : World) (a : Option Addr) (n c : Nat) :
    Calls Try.prog 123 #[(Value.agg #[Value.int IntKind.i64 (k), Value.slice (a) (n) (c), Value.int IntKind.i64 (h), Value.int IntKind.i64 (p), Value.int IntKind.i64 (q)])] w fun e w' => e = .returned (.bool false) ∧ Below w.heap.size w w' := by
  go_enter Try.func123, Try.ntmps123
  go_wp2
  go_ret
  exact ⟨rfl, by repeat' (first | exact Below.refl _ _ | assumption | refine Below.setCell ?_ ?_ _ | refine Below.alloc ?_ ?_ _ | refine Adr.below_drewN ?_ _ | refine Below.drew ?_ | exact Nat.le_refl _ | omega | (dsimp only; omega) | refine Adr.le_alloc ?_ | refine Adr.le_set ?_ | refine Adr.le_drewN ?_ | refine Adr.le_drew ?_)⟩

set_option maxHeartbeats 800000 in
set_option maxRecDepth 100000 in
theorem valid_impl (lo hi : Nat) (k h p q : Int) (w : World) (a : Option Addr) (n c : Nat) (zs : List Int) (hr : Row .i64 lo hi w a n zs) :
    Calls Try.prog 75 #[(Value.agg #[Value.int IntKind.i64 (k), Value.slice (a) (n) (c), Value.int IntKind.i64 (h), Value.int IntKind.i64 (p), Value.int IntKind.i64 (q)])] w fun e w' => e = .returned (.bool (okR k h p q n zs)) ∧ Below w.heap.size w w' := by
  have hB : Below w.heap.size w (w.alloc (.cells #[.int .i64 k, .slice a n c, .int .i64 h, .int .i64 p, .int .i64 q] 31)) := by repeat' (first | exact Below.refl _ _ | assumption | refine Below.setCell ?_ ?_ _ | refine Below.alloc ?_ ?_ _ | refine Adr.below_drewN ?_ _ | refine Below.drew ?_ | exact Nat.le_refl _ | omega | (dsimp only; omega) | refine Adr.le_alloc ?_ | refine Adr.le_set ?_ | refine Adr.le_drewN ?_ | refine Adr.le_drew ?_)
  unfold okR
  by_cases h12 : k = 1 ∨ k = 2
  · rw [if_pos h12]
    go_enter Try.func75, Try.ntmps75
    go_wp2_with fail
    go_at_call 85
    refine (answer_content k h p q _ a n c h12).mono ?_
    rintro e w1 ⟨rfl, hb1⟩
    have hB1 := hB.trans (hb1.mono hB.size)
    go_wp2_with fail
    go_at_call 119
    refine (sound_content lo hi k h p q _ a n c zs (hr.below hB1)).mono ?_
    rintro e w2 ⟨rfl, hb2⟩
    go_wp2
    go_ret
    exact ⟨rfl, hB1.trans (hb2.mono hB1.size)⟩
  · rw [if_neg h12]
    by_cases h3 : k = 3
    · subst h3
      rw [if_pos rfl]
      go_enter Try.func75, Try.ntmps75
      go_wp2_with fail
      go_at_call 85
      refine (answer_move h p q _ a n c).mono ?_
      rintro e w1 ⟨rfl, hb1⟩
      have hB1 := hB.trans (hb1.mono hB.size)
      go_wp2_with fail
      go_at_call 121
      refine (sound_move 3 h p q _ a n c).mono ?_
      rintro e w2 ⟨rfl, hb2⟩
      go_wp2
      go_ret
      exact ⟨rfl, hB1.trans (hb2.mono hB1.size)⟩
    · rw [if_neg h3]
      by_cases h4 : k = 4
      · subst h4
        rw [if_pos rfl]
        go_enter Try.func75, Try.ntmps75
        go_wp2_with fail
        go_at_call 85
        refine (answer_absence h p q _ a n c).mono ?_
        rintro e w1 ⟨rfl, hb1⟩
        have hB1 := hB.trans (hb1.mono hB.size)
        go_wp2_with fail
        go_at_call 122
        refine (sound_absence 4 h p q _ a n c).mono ?_
        rintro e w2 ⟨rfl, hb2⟩
        go_wp2
        go_ret
        exact ⟨rfl, hB1.trans (hb2.mono hB1.size)⟩
      · rw [if_neg h4]
        go_enter Try.func75, Try.ntmps75
        go_wp2_with fail
        go_at_call 85
        refine (answer_stray k h p q _ a n c h12 h3 h4).mono ?_
        rintro e w1 ⟨rfl, hb1⟩
        have hB1 := hB.trans (hb1.mono hB.size)
        go_wp2_with fail
        go_at_call 123
        refine (sound_stray k h p q _ a n c).mono ?_
        rintro e w2 ⟨rfl, hb2⟩
        go_wp2
        go_ret
        exact ⟨rfl, hB1.trans (hb2.mono hB1.size)⟩
end Go.Proofs.Ytldpgkbemgpacaa.Res
