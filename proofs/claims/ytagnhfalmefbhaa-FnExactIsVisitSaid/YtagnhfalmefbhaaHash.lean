/-
  Mod at a modulus, and Hash, of the program and of the model.
  Conditions: the rows lie in memory.
-/
import Derived.Test.YtagnhfalmefbhaaInts
import Derived.Test.YtagnhfalmefbhaaRange
import Derived.Test.YtagnhfalmefbhaaMaths
namespace Go.Proofs.Ytagnhfalmefbhaa.Hsh
open Go Go.RowKit Go.Proofs.Ytagnhfalmefbhaa.Mem
set_option linter.unusedVariables false

set_option maxRecDepth 100000 in
theorem mod_impl (a : Int) (w : World) :
    Calls Try.prog 48 #[.int .i64 a, .int .i64 2147483647] w fun e w' => e = .returned (.int .i64 (a % 2147483647)) ∧ w = w' := by
  have hlo := Int.lt_tmod_of_pos a (show (0 : Int) < 2147483647 by omega)
  have hhi := Int.tmod_lt_of_pos a (show (0 : Int) < 2147483647 by omega)
  have hn := tmod_neg a
  have hp := tmod_pos a
  obtain ⟨r, hr⟩ : ∃ r, Hid (a.tmod 2147483647 = r) := ⟨_, rfl⟩
  rw [hr.out] at hlo hhi hn hp
  have hr' := hr.out
  by_cases h : r < 0
  · rw [← hn h]
    clear hn hp
    go_enter Try.func48, Try.ntmps48
    go_wp2
    go_ret
    exact ⟨rfl, rfl⟩
  · rw [← hp (by omega)]
    clear hn hp
    have h' : decide (r < 0) = false := by simpa using h
    go_enter Try.func48, Try.ntmps48
    go_wp2
    go_ret
    exact ⟨rfl, rfl⟩

set_option maxRecDepth 100000 in
theorem mod_spec (a : Int) (w : World) :
    Calls Try.prog 60 #[.int .i64 a, .int .i64 2147483647] w fun e w' => e = .returned (.int .i64 (a % 2147483647)) ∧ w = w' := by
  have hlo := Int.lt_tmod_of_pos a (show (0 : Int) < 2147483647 by omega)
  have hhi := Int.tmod_lt_of_pos a (show (0 : Int) < 2147483647 by omega)
  rw [← tmod_any a]
  obtain ⟨r, hr⟩ : ∃ r, Hid (a.tmod 2147483647 = r) := ⟨_, rfl⟩
  have hr' := hr.out
  rw [hr'] at hlo hhi ⊢
  go_enter Try.func60, Try.ntmps60
  go_wp2
  go_ret
  exact ⟨rfl, rfl⟩

set_option maxHeartbeats 1000000 in
set_option maxRecDepth 100000 in
theorem hash_impl (lo hi : Nat) (w : World) (a : Option Addr) (n c : Nat) (zs : List Int) (hr : Row .i64 lo hi w a n zs) (hn : n ≤ 35184372088832) :
    Calls Try.prog 71 #[.slice a n c] w fun e w' => e = .returned (.int .i64 (hash zs)) ∧ w = w' := by
  have HL := Lib.hid hr.len
  go_enter Try.func71, Try.ntmps71
  go_wp2
  go_loopw [3, 8] (fun d i wr => ∃ (j : Nat) (x : Int), j ≤ n ∧ i = .int .i64 j ∧ d = .int .i64 x ∧ 0 ≤ x ∧ x < 2147483647 ∧ Hid (hash (zs.take j) = x) ∧ wr = w) (fun _ i _ => n - (intOf i).toNat)
  case atStart => exact ⟨0, 11, Nat.zero_le _, rfl, rfl, by omega, by omega, rfl, rfl⟩
  case round =>
    obtain ⟨j, x, hj, rfl, rfl, hx0, hx1, hx, rfl⟩ := hrel
    by_cases hlt : j < n
    · obtain ⟨b, off, rfl, _, _, hc⟩ := hr.cell hlt
      obtain ⟨z, hz⟩ : ∃ z, Hid (zs.getD j 0 = z) := ⟨_, rfl⟩
      rw [hz.out] at hc
      obtain ⟨r, hr'⟩ : ∃ r, Hid (z % 2147483647 = r) := ⟨_, rfl⟩
      have hr0 : 0 ≤ r ∧ r < 2147483647 := by have := hr'.out; omega
      have HN := Lib.hid (hash_next zs j (by have := HL.out; omega))
      have HS := Lib.hid (hstep_of (d := x) hr'.out)
      have hm := mod_impl z wr
      rw [hr'.out] at hm
      obtain ⟨r0, r1⟩ := hr0
      go_wp2_with (go_at_call 48; refine hm.mono ?_; rintro e w' ⟨rfl, rfl⟩)
      go_roundw
      case rel =>
        refine ⟨j + 1, _, by omega, by go_num, rfl, by omega, by omega, ?_, trivial⟩
        show Hid _
        refine Lib.hid ?_
        rw [← HN.out, hx.out, hz.out, ← HS.out]
      case measure => simp [intOf]; omega
    · have hd : decide ((j : Int) < (n : Int)) = false := by simp; omega
      have HE := Lib.hid (show j = zs.length by have := HL.out; omega)
      go_wp2
      go_ret
      have h1 := hx.out
      rw [HE.out, List.take_length] at h1
      rw [h1]
      exact ⟨rfl, rfl⟩

set_option maxHeartbeats 1000000 in
set_option maxRecDepth 100000 in
theorem hash_spec (lo hi : Nat) (w : World) (a : Option Addr) (n c : Nat) (zs : List Int) (hr : Row .i64 lo hi w a n zs) (hn : n ≤ 35184372088832) :
    Calls Try.prog 61 #[.slice a n c] w fun e w' => e = .returned (.int .i64 (hash zs)) ∧ w = w' := by
  have HL := Lib.hid hr.len
  go_enter Try.func61, Try.ntmps61
  go_wp2
  go_loopw [3, 4] (fun d i wr => ∃ (j : Nat) (x : Int), j ≤ n ∧ i = .int .i64 j ∧ d = .int .i64 x ∧ 0 ≤ x ∧ x < 2147483647 ∧ Hid (hash (zs.take j) = x) ∧ wr = w) (fun _ i _ => n - (intOf i).toNat)
  case atStart => exact ⟨0, 11, Nat.zero_le _, rfl, rfl, by omega, by omega, rfl, rfl⟩
  case round =>
    obtain ⟨j, x, hj, rfl, rfl, hx0, hx1, hx, rfl⟩ := hrel
    by_cases hlt : j < n
    · obtain ⟨b, off, rfl, _, _, hc⟩ := hr.cell hlt
      obtain ⟨z, hz⟩ : ∃ z, Hid (zs.getD j 0 = z) := ⟨_, rfl⟩
      rw [hz.out] at hc
      obtain ⟨r, hr'⟩ : ∃ r, Hid (z % 2147483647 = r) := ⟨_, rfl⟩
      have hr0 : 0 ≤ r ∧ r < 2147483647 := by have := hr'.out; omega
      have HN := Lib.hid (hash_next zs j (by have := HL.out; omega))
      have HS := Lib.hid (hstep_of (d := x) hr'.out)
      have hm := mod_spec z wr
      rw [hr'.out] at hm
      obtain ⟨r0, r1⟩ := hr0
      go_wp2_with (go_at_call 60; refine hm.mono ?_; rintro e w' ⟨rfl, rfl⟩)
      go_roundw
      case rel =>
        refine ⟨j + 1, _, by omega, by go_num, rfl, by omega, by omega, ?_, trivial⟩
        show Hid _
        refine Lib.hid ?_
        rw [← HN.out, hx.out, hz.out, ← HS.out]
      case measure => simp [intOf]; omega
    · have hd : decide ((j : Int) < (n : Int)) = false := by simp; omega
      have HE := Lib.hid (show j = zs.length by have := HL.out; omega)
      go_wp2
      go_ret
      have h1 := hx.out
      rw [HE.out, List.take_length] at h1
      rw [h1]
      exact ⟨rfl, rfl⟩
end Go.Proofs.Ytagnhfalmefbhaa.Hsh
