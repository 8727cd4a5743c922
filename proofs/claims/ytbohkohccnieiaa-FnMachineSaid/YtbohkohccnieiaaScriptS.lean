/-
  Scripts: the model. Whether a step, a script is valid; names; which ask; how many.
  Conditions: the steps lie in memory, with 2^20 numbers at most.
-/
import Derived.Test.YtbohkohccnieiaaScriptMath
import Derived.Test.YtbohkohccnieiaaRange
import Derived.Below
import Derived.WalkKit
namespace Go.Proofs.Ytbohkohccnieiaa.Scripts
open Go Go.RowKit Go.Proofs.Ytbohkohccnieiaa.Mem Go.Proofs.Ytbohkohccnieiaa.Gen Go.Proofs.Ytbohkohccnieiaa.Range

theorem l1_is (x lo hi : Int) (w : World) :
    Calls Try.prog 57 #[.int .i64 x, .int .i64 lo, .int .i64 hi] w fun e w' => e = .returned (.bool (inR lo hi x)) ∧ w = w' := by
  by_cases h : lo ≤ x ∧ x ≤ hi
  · rw [inR_yes h.1 h.2]; exact l1_yes x lo hi w h.1 h.2
  · rw [inR_no (by omega)]; exact l1_no x lo hi w (by omega)

-- KINDS
set_option maxHeartbeats 800000 in
set_option maxRecDepth 100000 in
theorem ok_spec_1 (a b c : Int) (w : World) (hra : inR 0 3 a = true) :
    Calls Try.prog 90 #[.agg #[.int .i64 1, .int .i64 a, .int .i64 b, .int .i64 c]] w fun e w' => e = .returned (.bool (okK (rng 1) a b c)) ∧ Below w.heap.size w w' := by
  have hA := l1_is a 0 3
  rw [hra] at hA
  have hB := (Below.refl w.heap.size w).alloc (Nat.le_refl _) (.cells #[.int .i64 1, .int .i64 a, .int .i64 b, .int .i64 c] 71)
  have ho : okK (rng 1) a b c = (inR 1 9 b && inR 0 99 c) := by show (inR 0 3 a && _) = _; rw [hra]; rfl
  rw [ho]
  clear ho hra
  have hb := l1_is b 1 9
  obtain ⟨rb, hrb⟩ : ∃ r, inR 1 9 b = r := ⟨_, rfl⟩
  rw [hrb] at hb ⊢
  clear hrb
  have hc := l1_is c 0 99
  obtain ⟨rc, hrc⟩ : ∃ r, inR 0 99 c = r := ⟨_, rfl⟩
  rw [hrc] at hc ⊢
  clear hrc
  go_enter Try.func90, Try.ntmps90
  go_wp2_with fail
  go_at_call 57
  refine (hA _).mono ?_
  rintro e w1 ⟨rfl, rfl⟩
  go_wp2_with fail
  go_at_call 57
  refine (hb _).mono ?_
  rintro e w1 ⟨rfl, rfl⟩
  cases rb
  · go_wp2
    go_ret
    exact ⟨rfl, hB⟩
  · go_wp2_with fail
    go_at_call 57
    refine (hc _).mono ?_
    rintro e w1 ⟨rfl, rfl⟩
    go_wp2
    go_ret
    exact ⟨rfl, hB⟩
set_option maxHeartbeats 800000 in
set_option maxRecDepth 100000 in
theorem ok_spec_2 (a b c : Int) (w : World) (hra : inR 0 3 a = true) :
    Calls Try.prog 90 #[.agg #[.int .i64 2, .int .i64 a, .int .i64 b, .int .i64 c]] w fun e w' => e = .returned (.bool (okK (rng 2) a b c)) ∧ Below w.heap.size w w' := by
  have hA := l1_is a 0 3
  rw [hra] at hA
  have hB := (Below.refl w.heap.size w).alloc (Nat.le_refl _) (.cells #[.int .i64 2, .int .i64 a, .int .i64 b, .int .i64 c] 71)
  have ho : okK (rng 2) a b c = ((b == 0) && (c == 0)) := by show (inR 0 3 a && (inR 0 0 b && inR 0 0 c)) = _; rw [hra, inR_zero, inR_zero]; rfl
  rw [ho]
  clear ho hra
  obtain ⟨rb, hrb⟩ : ∃ r, (b == 0) = r := ⟨_, rfl⟩
  rw [hrb]
  go_enter Try.func90, Try.ntmps90
  go_wp2_with fail
  go_at_call 57
  refine (hA _).mono ?_
  rintro e w1 ⟨rfl, rfl⟩
  cases rb
  all_goals
    go_wp2
    go_ret
    exact ⟨rfl, hB⟩
set_option maxHeartbeats 800000 in
set_option maxRecDepth 100000 in
theorem ok_spec_3 (a b c : Int) (w : World) (hra : inR 0 3 a = true) :
    Calls Try.prog 90 #[.agg #[.int .i64 3, .int .i64 a, .int .i64 b, .int .i64 c]] w fun e w' => e = .returned (.bool (okK (rng 3) a b c)) ∧ Below w.heap.size w w' := by
  have hA := l1_is a 0 3
  rw [hra] at hA
  have hB := (Below.refl w.heap.size w).alloc (Nat.le_refl _) (.cells #[.int .i64 3, .int .i64 a, .int .i64 b, .int .i64 c] 71)
  have ho : okK (rng 3) a b c = ((b == 0) && (c == 0)) := by show (inR 0 3 a && (inR 0 0 b && inR 0 0 c)) = _; rw [hra, inR_zero, inR_zero]; rfl
  rw [ho]
  clear ho hra
  obtain ⟨rb, hrb⟩ : ∃ r, (b == 0) = r := ⟨_, rfl⟩
  rw [hrb]
  go_enter Try.func90, Try.ntmps90
  go_wp2_with fail
  go_at_call 57
  refine (hA _).mono ?_
  rintro e w1 ⟨rfl, rfl⟩
  cases rb
  all_goals
    go_wp2
    go_ret
    exact ⟨rfl, hB⟩
set_option maxHeartbeats 800000 in
set_option maxRecDepth 100000 in
theorem ok_spec_4 (a b c : Int) (w : World) (hra : inR 0 3 a = true) :
    Calls Try.prog 90 #[.agg #[.int .i64 4, .int .i64 a, .int .i64 b, .int .i64 c]] w fun e w' => e = .returned (.bool (okK (rng 4) a b c)) ∧ Below w.heap.size w w' := by
  have hA := l1_is a 0 3
  rw [hra] at hA
  have hB := (Below.refl w.heap.size w).alloc (Nat.le_refl _) (.cells #[.int .i64 4, .int .i64 a, .int .i64 b, .int .i64 c] 71)
  have ho : okK (rng 4) a b c = ((b == 0) && (c == 0)) := by show (inR 0 3 a && (inR 0 0 b && inR 0 0 c)) = _; rw [hra, inR_zero, inR_zero]; rfl
  rw [ho]
  clear ho hra
  obtain ⟨rb, hrb⟩ : ∃ r, (b == 0) = r := ⟨_, rfl⟩
  rw [hrb]
  go_enter Try.func90, Try.ntmps90
  go_wp2_with fail
  go_at_call 57
  refine (hA _).mono ?_
  rintro e w1 ⟨rfl, rfl⟩
  cases rb
  all_goals
    go_wp2
    go_ret
    exact ⟨rfl, hB⟩
set_option maxHeartbeats 800000 in
set_option maxRecDepth 100000 in
theorem ok_spec_5 (a b c : Int) (w : World) (hra : inR 0 3 a = true) :
    Calls Try.prog 90 #[.agg #[.int .i64 5, .int .i64 a, .int .i64 b, .int .i64 c]] w fun e w' => e = .returned (.bool (okK (rng 5) a b c)) ∧ Below w.heap.size w w' := by
  have hA := l1_is a 0 3
  rw [hra] at hA
  have hB := (Below.refl w.heap.size w).alloc (Nat.le_refl _) (.cells #[.int .i64 5, .int .i64 a, .int .i64 b, .int .i64 c] 71)
  have ho : okK (rng 5) a b c = (inR 0 3 b && inR 0 3 c) := by show (inR 0 3 a && _) = _; rw [hra]; rfl
  rw [ho]
  clear ho hra
  have hb := l1_is b 0 3
  obtain ⟨rb, hrb⟩ : ∃ r, inR 0 3 b = r := ⟨_, rfl⟩
  rw [hrb] at hb ⊢
  clear hrb
  have hc := l1_is c 0 3
  obtain ⟨rc, hrc⟩ : ∃ r, inR 0 3 c = r := ⟨_, rfl⟩
  rw [hrc] at hc ⊢
  clear hrc
  go_enter Try.func90, Try.ntmps90
  go_wp2_with fail
  go_at_call 57
  refine (hA _).mono ?_
  rintro e w1 ⟨rfl, rfl⟩
  go_wp2_with fail
  go_at_call 57
  refine (hb _).mono ?_
  rintro e w1 ⟨rfl, rfl⟩
  cases rb
  · go_wp2
    go_ret
    exact ⟨rfl, hB⟩
  · go_wp2_with fail
    go_at_call 57
    refine (hc _).mono ?_
    rintro e w1 ⟨rfl, rfl⟩
    go_wp2
    go_ret
    exact ⟨rfl, hB⟩
set_option maxHeartbeats 800000 in
set_option maxRecDepth 100000 in
theorem ok_spec_6 (a b c : Int) (w : World) (hra : inR 0 3 a = true) :
    Calls Try.prog 90 #[.agg #[.int .i64 6, .int .i64 a, .int .i64 b, .int .i64 c]] w fun e w' => e = .returned (.bool (okK (rng 6) a b c)) ∧ Below w.heap.size w w' := by
  have hA := l1_is a 0 3
  rw [hra] at hA
  have hB := (Below.refl w.heap.size w).alloc (Nat.le_refl _) (.cells #[.int .i64 6, .int .i64 a, .int .i64 b, .int .i64 c] 71)
  have ho : okK (rng 6) a b c = (inR 0 3 b && (c == 0)) := by show (inR 0 3 a && (_ && inR 0 0 c)) = _; rw [hra, inR_zero]; rfl
  rw [ho]
  clear ho hra
  have hb := l1_is b 0 3
  obtain ⟨rb, hrb⟩ : ∃ r, inR 0 3 b = r := ⟨_, rfl⟩
  rw [hrb] at hb ⊢
  clear hrb
  go_enter Try.func90, Try.ntmps90
  go_wp2_with fail
  go_at_call 57
  refine (hA _).mono ?_
  rintro e w1 ⟨rfl, rfl⟩
  go_wp2_with fail
  go_at_call 57
  refine (hb _).mono ?_
  rintro e w1 ⟨rfl, rfl⟩
  cases rb
  all_goals
    go_wp2
    go_ret
    exact ⟨rfl, hB⟩
set_option maxHeartbeats 800000 in
set_option maxRecDepth 100000 in
theorem ok_spec_7 (a b c : Int) (w : World) (hra : inR 0 3 a = true) :
    Calls Try.prog 90 #[.agg #[.int .i64 7, .int .i64 a, .int .i64 b, .int .i64 c]] w fun e w' => e = .returned (.bool (okK (rng 7) a b c)) ∧ Below w.heap.size w w' := by
  have hA := l1_is a 0 3
  rw [hra] at hA
  have hB := (Below.refl w.heap.size w).alloc (Nat.le_refl _) (.cells #[.int .i64 7, .int .i64 a, .int .i64 b, .int .i64 c] 71)
  have ho : okK (rng 7) a b c = (inR 1 3 b && (c == 0)) := by show (inR 0 3 a && (_ && inR 0 0 c)) = _; rw [hra, inR_zero]; rfl
  rw [ho]
  clear ho hra
  have hb := l1_is b 1 3
  obtain ⟨rb, hrb⟩ : ∃ r, inR 1 3 b = r := ⟨_, rfl⟩
  rw [hrb] at hb ⊢
  clear hrb
  go_enter Try.func90, Try.ntmps90
  go_wp2_with fail
  go_at_call 57
  refine (hA _).mono ?_
  rintro e w1 ⟨rfl, rfl⟩
  go_wp2_with fail
  go_at_call 57
  refine (hb _).mono ?_
  rintro e w1 ⟨rfl, rfl⟩
  cases rb
  all_goals
    go_wp2
    go_ret
    exact ⟨rfl, hB⟩
set_option maxHeartbeats 800000 in
set_option maxRecDepth 100000 in
theorem ok_spec_8 (a b c : Int) (w : World) (hra : inR 0 3 a = true) :
    Calls Try.prog 90 #[.agg #[.int .i64 8, .int .i64 a, .int .i64 b, .int .i64 c]] w fun e w' => e = .returned (.bool (okK (rng 8) a b c)) ∧ Below w.heap.size w w' := by
  have hA := l1_is a 0 3
  rw [hra] at hA
  have hB := (Below.refl w.heap.size w).alloc (Nat.le_refl _) (.cells #[.int .i64 8, .int .i64 a, .int .i64 b, .int .i64 c] 71)
  have ho : okK (rng 8) a b c = (inR 0 2 b && (c == 0)) := by show (inR 0 3 a && (_ && inR 0 0 c)) = _; rw [hra, inR_zero]; rfl
  rw [ho]
  clear ho hra
  have hb := l1_is b 0 2
  obtain ⟨rb, hrb⟩ : ∃ r, inR 0 2 b = r := ⟨_, rfl⟩
  rw [hrb] at hb ⊢
  clear hrb
  go_enter Try.func90, Try.ntmps90
  go_wp2_with fail
  go_at_call 57
  refine (hA _).mono ?_
  rintro e w1 ⟨rfl, rfl⟩
  go_wp2_with fail
  go_at_call 57
  refine (hb _).mono ?_
  rintro e w1 ⟨rfl, rfl⟩
  cases rb
  all_goals
    go_wp2
    go_ret
    exact ⟨rfl, hB⟩
set_option maxHeartbeats 800000 in
set_option maxRecDepth 100000 in
theorem ok_spec_9 (a b c : Int) (w : World) (hra : inR 0 3 a = true) :
    Calls Try.prog 90 #[.agg #[.int .i64 9, .int .i64 a, .int .i64 b, .int .i64 c]] w fun e w' => e = .returned (.bool (okK (rng 9) a b c)) ∧ Below w.heap.size w w' := by
  have hA := l1_is a 0 3
  rw [hra] at hA
  have hB := (Below.refl w.heap.size w).alloc (Nat.le_refl _) (.cells #[.int .i64 9, .int .i64 a, .int .i64 b, .int .i64 c] 71)
  have ho : okK (rng 9) a b c = (inR 0 2 b && (c == 0)) := by show (inR 0 3 a && (_ && inR 0 0 c)) = _; rw [hra, inR_zero]; rfl
  rw [ho]
  clear ho hra
  have hb := l1_is b 0 2
  obtain ⟨rb, hrb⟩ : ∃ r, inR 0 2 b = r := ⟨_, rfl⟩
  rw [hrb] at hb ⊢
  clear hrb
  go_enter Try.func90, Try.ntmps90
  go_wp2_with fail
  go_at_call 57
  refine (hA _).mono ?_
  rintro e w1 ⟨rfl, rfl⟩
  go_wp2_with fail
  go_at_call 57
  refine (hb _).mono ?_
  rintro e w1 ⟨rfl, rfl⟩
  cases rb
  all_goals
    go_wp2
    go_ret
    exact ⟨rfl, hB⟩
-- END
set_option maxHeartbeats 1600000 in
set_option maxRecDepth 100000 in
theorem ok_spec (k a b c : Int) (w : World) :
    Calls Try.prog 90 #[.agg #[.int .i64 k, .int .i64 a, .int .i64 b, .int .i64 c]] w fun e w' => e = .returned (.bool (okK (rng k) a b c)) ∧ Below w.heap.size w w' := by
  have hA := l1_is a 0 3
  obtain ⟨ra, hra⟩ : ∃ r, inR 0 3 a = r := ⟨_, rfl⟩
  rw [hra] at hA
  have hB := (Below.refl w.heap.size w).alloc (Nat.le_refl _) (.cells #[.int .i64 k, .int .i64 a, .int .i64 b, .int .i64 c] 71)
  cases ra with
  | false =>
    rw [okK_no hra]
    go_enter Try.func90, Try.ntmps90
    go_wp2_with (go_at_call 57; refine (hA _).mono ?_; rintro e w1 ⟨rfl, rfl⟩)
    go_ret
    exact ⟨rfl, hB⟩
  | true =>
  by_cases hk : 1 ≤ k ∧ k ≤ 9
  rotate_left
  · rw [rng_none (by omega)]
    have e1 : (k == 1) = false := by simp; omega
    have e2 : (k == 2) = false := by simp; omega
    have e3 : (k == 3) = false := by simp; omega
    have e4 : (k == 4) = false := by simp; omega
    have e5 : (k == 5) = false := by simp; omega
    have e6 : (k == 6) = false := by simp; omega
    have e7 : (k == 7) = false := by simp; omega
    have e8 : (k == 8) = false := by simp; omega
    have e9 : (k == 9) = false := by simp; omega
    go_enter Try.func90, Try.ntmps90
    go_wp2_with (go_at_call 57; refine (hA _).mono ?_; rintro e w1 ⟨rfl, rfl⟩)
    go_ret
    exact ⟨rfl, hB⟩
  rcases kinds k hk.1 hk.2
  · exact ok_spec_1 a b c w hra
  · exact ok_spec_2 a b c w hra
  · exact ok_spec_3 a b c w hra
  · exact ok_spec_4 a b c w hra
  · exact ok_spec_5 a b c w hra
  · exact ok_spec_6 a b c w hra
  · exact ok_spec_7 a b c w hra
  · exact ok_spec_8 a b c w hra
  · exact ok_spec_9 a b c w hra

set_option maxRecDepth 100000 in
theorem script_spec (lo hi : Nat) (w : World) (A : Option Addr) (c : Nat) (l : List TOp) (h : Lies lo hi w (dOp l) (.slice A l.length c)) (hh : hi ≤ w.heap.size) (hm : l.length ≤ 1048576) :
    Calls Try.prog 80 #[.slice A l.length c] w fun e w' => e = .returned (.bool (scriptB l)) ∧ Below w.heap.size w w' := by
  obtain ⟨n, hn⟩ : ∃ n, l.length = n := ⟨_, rfl⟩
  obtain ⟨r, hr⟩ : ∃ r, scriptB l = r := ⟨_, rfl⟩
  rw [hr]
  rw [hn] at h hm ⊢
  have HN := Lib.hid hn
  have HR := Lib.hid hr
  clear hn hr
  go_enter Try.func80, Try.ntmps80
  go_wp2
  go_loopw [3] (fun i wr => ∃ j : Nat, j ≤ n ∧ i = .int .i64 j ∧ AllOk l j ∧ Below w.heap.size w wr) (fun i _ => n - (Go.RowKit.intOf i).toNat)
  case atStart => exact ⟨0, Nat.zero_le _, rfl, AllOk.zero _, Below.refl _ _⟩
  case round =>
    obtain ⟨j, hj, rfl, hal, hbl⟩ := hrel
    by_cases hlt : j < n
    · obtain ⟨b, off, rfl, _, _, hc, _⟩ := at_Op (h.under hbl hh) hlt
      have HNO := Lib.hid (fun h => scriptB_no (l := l) (j := j) (by rw [HN.out]; exact hlt) h)
      have HYE := Lib.hid (fun h => hal.next h)
      obtain ⟨P, hP⟩ : ∃ P, l.getD j nOp = P := ⟨_, rfl⟩
      rw [hP] at hc HNO HYE
      obtain ⟨c0, c1, c2, c3⟩ := hc
      have hok := fun W => ok_spec P.f0 P.f1 P.f2 P.f3 W
      obtain ⟨r1, hr1⟩ : ∃ r, okK (rng P.f0) P.f1 P.f2 P.f3 = r := ⟨_, rfl⟩
      rw [hr1] at hok
      have HR1 := Lib.hid (show okO P = r1 from hr1)
      clear hr1 hP hal
      go_wp2_with fail
      go_at_call 90
      refine (hok _).mono ?_
      rintro e w1 ⟨rfl, hb1⟩
      have hbl1 := hbl.trans (hb1.mono hbl.size)
      cases r1 with
      | false =>
        go_wp2
        go_ret
        have e1 := HNO.out HR1.out
        rw [HR.out] at e1
        exact ⟨by rw [e1]; rfl, hbl1⟩
      | true =>
        have hal2 := HYE.out HR1.out
        go_wp2
        go_roundw
        case rel => exact ⟨j + 1, by omega, by go_num, hal2, hbl1⟩
        case measure => simp [Go.RowKit.intOf]; omega
    · have hd : decide ((j : Int) < (n : Int)) = false := by simp; omega
      have e1 := hal.end (by rw [HN.out]; omega)
      rw [HR.out, HN.out] at e1
      go_wp2
      go_ret
      refine ⟨?_, hbl⟩
      rw [e1]
      by_cases h12 : n ≤ 16
      · rw [decide_eq_true h12, decide_eq_true (show (n : Int) ≤ 16 by omega)]; rfl
      · rw [decide_eq_false h12, decide_eq_false (show ¬ (n : Int) ≤ 16 by omega)]; rfl

set_option maxRecDepth 100000 in
theorem asks_spec (k : Int) (w : World) :
    Calls Try.prog 61 #[.int .i64 k] w fun e w' => e = .returned (.bool (asksB k)) ∧ w = w' := by
  go_enter Try.func61, Try.ntmps61
  go_wp2_with (go_at_call 57; refine (l1_is k 1 4 _).mono ?_; rintro e w1 ⟨rfl, rfl⟩)
  go_ret
  exact ⟨rfl, rfl⟩

end Go.Proofs.Ytbohkohccnieiaa.Scripts
