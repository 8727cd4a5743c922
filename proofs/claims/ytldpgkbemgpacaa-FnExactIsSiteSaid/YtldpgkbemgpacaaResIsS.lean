/-
  Whether a resource is valid: the model.
  Conditions: the body is a row in memory.
-/
import Derived.Test.YtldpgkbemgpacaaResIs
namespace Go.Proofs.Ytldpgkbemgpacaa.Res
open Go Go.RowKit Go.Proofs.Ytldpgkbemgpacaa.Mem Go.Proofs.Ytldpgkbemgpacaa.Adr Go.Proofs.Ytldpgkbemgpacaa.Range

theorem okR_out {k h p q : Int} {n : Nat} {zs : List Int} (e : k < 1 ∨ 4 < k) : okR k h p q n zs = false := by
  unfold okR; rw [if_neg (by omega), if_neg (by omega), if_neg (by omega)]
theorem okR_move {h p q : Int} {n : Nat} {zs : List Int} : okR 3 h p q n zs = (decide (n = 0) && okA h p q) := by
  unfold okR; rw [if_neg (by omega), if_pos rfl]
theorem okR_none {h p q : Int} {n : Nat} {zs : List Int} : okR 4 h p q n zs = (decide (n = 0) && zero3 h p q) := by
  unfold okR; rw [if_neg (by omega), if_neg (by omega), if_pos rfl]
theorem okR_content {k h p q : Int} {n : Nat} {zs : List Int} (e : k = 1 ∨ k = 2) : okR k h p q n zs = (decide (n ≤ 6) && (allB zs && zero3 h p q)) := by
  unfold okR; rw [if_pos e]
theorem okR_long {k h p q : Int} {n : Nat} {zs : List Int} (e : 6 < n) : okR k h p q n zs = false := by
  unfold okR
  rw [decide_eq_false (show ¬ n ≤ 6 by omega), decide_eq_false (show ¬ n = 0 by omega)]
  simp
theorem okR_bad {k h p q : Int} {n : Nat} {zs : List Int} (e : allB zs = false) (hl : zs.length = n) : okR k h p q n zs = false := by
  have h0 : ¬ n = 0 := by
    intro h0
    rw [h0] at hl
    rw [List.eq_nil_of_length_eq_zero hl] at e
    cases e
  unfold okR
  rw [e, decide_eq_false h0]
  simp

theorem beq0 (n : Nat) : ((n : Int) == 0) = decide (n = 0) := by rw [Bool.eq_iff_iff]; simp

set_option maxHeartbeats 1600000 in
set_option maxRecDepth 100000 in
theorem valid_spec (lo hi : Nat) (k h p q : Int) (w : World) (a : Option Addr) (n c : Nat) (zs : List Int) (hr : Row .i64 lo hi w a n zs) (hn : n ≤ 1048576) :
    Calls Try.prog 53 #[(Value.agg #[Value.int IntKind.i64 (k), Value.slice (a) (n) (c), Value.int IntKind.i64 (h), Value.int IntKind.i64 (p), Value.int IntKind.i64 (q)])] w fun e w' => e = .returned (.bool (okR k h p q n zs)) ∧ Below w.heap.size w w' := by
  have hB : Below w.heap.size w (w.alloc (.cells #[.int .i64 k, .slice a n c, .int .i64 h, .int .i64 p, .int .i64 q] 31)) := by repeat' (first | exact Below.refl _ _ | assumption | refine Below.setCell ?_ ?_ _ | refine Below.alloc ?_ ?_ _ | refine Adr.below_drewN ?_ _ | refine Below.drew ?_ | exact Nat.le_refl _ | omega | (dsimp only; omega) | refine Adr.le_alloc ?_ | refine Adr.le_set ?_ | refine Adr.le_drewN ?_ | refine Adr.le_drew ?_)
  have Q := Quint.new 31 (.int .i64 k) (.slice a n c) (.int .i64 h) (.int .i64 p) (.int .i64 q) w
  have hE := bytes_spec lo hi _ a n c zs (hr.below hB) (by omega)
  have hl := hr.len
  clear hr
  by_cases hk : 1 ≤ k ∧ k ≤ 4
  rotate_left
  · have hI := fun W => l1_no k 1 4 W (by omega)
    rw [okR_out (by omega)]
    go_enter Try.func53, Try.ntmps53
    go_wp2_with (go_at_call 52; refine (hI _).mono ?_; rintro e w1 ⟨rfl, rfl⟩)
    go_ret
    exact ⟨rfl, hB⟩
  have hI := fun W => l1_yes k 1 4 W hk.1 hk.2
  cases hb : allB zs
  · rw [okR_bad hb hl]
    rw [hb] at hE
    go_enter Try.func53, Try.ntmps53
    go_wp2_with (first | (go_at_call 52; refine (hI _).mono ?_; rintro e w1 ⟨rfl, rfl⟩) | (go_at_call 72; refine hE.mono ?_; rintro e w1 ⟨rfl, hb1⟩))
    go_ret
    exact ⟨rfl, hB.trans (hb1.mono hB.size)⟩
  rw [hb] at hE
  by_cases h6 : 6 < n
  · rw [okR_long h6]
    have d6 : decide ((n : Int) > 6) = true := by simp; omega
    have d6' : decide (6 < (n : Int)) = true := by simp; omega
    go_enter Try.func53, Try.ntmps53
    go_wp2_with fail
    go_at_call 52; refine (hI _).mono ?_; rintro e w1 ⟨rfl, rfl⟩
    go_wp2_with fail
    go_at_call 72; refine hE.mono ?_; rintro e w1 ⟨rfl, hb1⟩
    obtain ⟨q0, q1, q2, q3, q4⟩ := (Q.below hb1).cells
    go_wp2
    go_ret
    exact ⟨rfl, hB.trans (hb1.mono hB.size)⟩
  have d6 : decide (6 < (n : Int)) = false := by simp; omega
  by_cases h3 : k = 3
  · subst h3
    rw [okR_move]
    cases hA : okA h p q
    · rw [Bool.and_false]
      go_enter Try.func53, Try.ntmps53
      go_wp2_with fail
      go_at_call 52; refine (hI _).mono ?_; rintro e w1 ⟨rfl, rfl⟩
      go_wp2_with fail
      go_at_call 72; refine hE.mono ?_; rintro e w1 ⟨rfl, hb1⟩
      obtain ⟨q0, q1, q2, q3, q4⟩ := (Q.below hb1).cells
      have hB1 := hB.trans (hb1.mono hB.size)
      go_wp2_with fail
      go_at_call 51; refine (is_spec h p q _).mono ?_; rw [hA]; rintro e w2 ⟨rfl, hb2⟩
      go_wp2
      go_ret
      exact ⟨rfl, hB1.trans (hb2.mono hB1.size)⟩
    · rw [Bool.and_true]
      go_enter Try.func53, Try.ntmps53
      go_wp2_with fail
      go_at_call 52; refine (hI _).mono ?_; rintro e w1 ⟨rfl, rfl⟩
      go_wp2_with fail
      go_at_call 72; refine hE.mono ?_; rintro e w1 ⟨rfl, hb1⟩
      have Q1 := Q.below hb1
      obtain ⟨q0, q1, q2, q3, q4⟩ := Q1.cells
      have hB1 := hB.trans (hb1.mono hB.size)
      go_wp2_with fail
      go_at_call 51; refine (is_spec h p q _).mono ?_; rw [hA]; rintro e w2 ⟨rfl, hb2⟩
      obtain ⟨r0, r1, r2, r3, r4⟩ := (Q1.below hb2).cells
      go_wp2
      go_ret
      exact ⟨by simp [beq0], hB1.trans (hb2.mono hB1.size)⟩
  · by_cases h4 : k = 4
    · subst h4
      rw [okR_none]
      go_enter Try.func53, Try.ntmps53
      go_wp2_with fail
      go_at_call 52; refine (hI _).mono ?_; rintro e w1 ⟨rfl, rfl⟩
      go_wp2_with fail
      go_at_call 72; refine hE.mono ?_; rintro e w1 ⟨rfl, hb1⟩
      obtain ⟨q0, q1, q2, q3, q4⟩ := (Q.below hb1).cells
      have hB1 := hB.trans (hb1.mono hB.size)
      go_wp2
      all_goals
        go_ret
        exact ⟨by simp [zero3, beq0, *], hB1⟩
    · rw [okR_content (by omega), hb, decide_eq_true (show n ≤ 6 by omega), Bool.true_and, Bool.true_and]
      go_enter Try.func53, Try.ntmps53
      go_wp2_with fail
      go_at_call 52; refine (hI _).mono ?_; rintro e w1 ⟨rfl, rfl⟩
      go_wp2_with fail
      go_at_call 72; refine hE.mono ?_; rintro e w1 ⟨rfl, hb1⟩
      obtain ⟨q0, q1, q2, q3, q4⟩ := (Q.below hb1).cells
      have hB1 := hB.trans (hb1.mono hB.size)
      go_wp2
      all_goals
        go_ret
        exact ⟨by simp [zero3, *], hB1⟩
end Go.Proofs.Ytldpgkbemgpacaa.Res
