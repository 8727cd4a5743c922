/-
  Scripts: the program. Whether a script is valid; which steps ask; how many.
  Conditions: the steps lie in memory, with 2^20 numbers at most.
-/
import Derived.Test.YtbohkohccnieiaaWithin
namespace Go.Proofs.Ytbohkohccnieiaa.Scripts
open Go Go.RowKit Go.Proofs.Ytbohkohccnieiaa.Mem Go.Proofs.Ytbohkohccnieiaa.Gen Go.Proofs.Ytbohkohccnieiaa.Range

set_option maxHeartbeats 800000 in
set_option maxRecDepth 100000 in
theorem script_impl (lo hi : Nat) (w : World) (A : Option Addr) (c : Nat) (l : List TOp) (h : Lies lo hi w (dOp l) (.slice A l.length c)) (hh : hi ≤ w.heap.size) (hm : l.length ≤ 1048576) :
    Calls Try.prog 14 #[.slice A l.length c] w fun e w' => e = .returned (.bool (scriptB l)) ∧ Below w.heap.size w w' := by
  obtain ⟨n, hn⟩ : ∃ n, l.length = n := ⟨_, rfl⟩
  obtain ⟨r, hr⟩ : ∃ r, scriptB l = r := ⟨_, rfl⟩
  rw [hr]
  rw [hn] at h hm ⊢
  have HN := Lib.hid hn
  have HR := Lib.hid hr
  clear hn hr
  by_cases h16 : n ≤ 16
  rotate_left
  · have hd : decide ((n : Int) > 16) = true := by simp; omega
    have hd2 : decide ((16 : Int) < n) = true := by simp; omega
    have e1 : r = false := by rw [← HR.out]; unfold scriptB; rw [HN.out, decide_eq_false h16]; simp
    go_enter Try.func14, Try.ntmps14
    go_wp2
    go_ret
    exact ⟨by rw [e1]; rfl, Below.refl _ _⟩
  have hd0 : decide ((n : Int) > 16) = false := by simp; omega
  have hd1 : decide ((16 : Int) < n) = false := by simp; omega
  go_enter Try.func14, Try.ntmps14
  go_wp2
  go_loopw [10] (fun i wr => ∃ j : Nat, j ≤ n ∧ i = .int .i64 j ∧ AllOk l j ∧ Below w.heap.size w wr) (fun i _ => n - (Go.RowKit.intOf i).toNat)
  case atStart => exact ⟨0, Nat.zero_le _, rfl, AllOk.zero _, Below.refl _ _⟩
  case round =>
    obtain ⟨j, hj, rfl, hal, hbl⟩ := hrel
    by_cases hlt : j < n
    · obtain ⟨b, off, rfl, _, _, hc, _⟩ := at_Op (h.under hbl hh) hlt
      have HNO := Lib.hid (fun h => scriptB_no (l := l) (j := j) (by rw [HN.out]; exact hlt) h)
      have HYE := Lib.hid (fun h => hal.next h)
      obtain ⟨P, hP⟩ : ∃ P, l.getD j nOp = P := ⟨_, rfl⟩
      rw [hP] at hc HNO HYE
      obtain ⟨c0, c1, c2, c3⟩ := hc
      have hB := hbl.alloc hbl.size (.cells #[.int .i64 P.f0, .int .i64 P.f1, .int .i64 P.f2, .int .i64 P.f3] 71)
      have hok := fun W => op_impl P.f0 P.f1 P.f2 P.f3 W
      obtain ⟨r1, hr1⟩ : ∃ r, okK (rng P.f0) P.f1 P.f2 P.f3 = r := ⟨_, rfl⟩
      rw [hr1] at hok
      have HR1 := Lib.hid (show okO P = r1 from hr1)
      clear hr1 hP hal
      go_wp2_with fail
      go_at_call 48
      refine (hok _).mono ?_
      rintro e w1 ⟨rfl, hb1⟩
      have hbl1 := hB.trans (hb1.mono hB.size)
      cases r1 with
      | false =>
        go_wp2
        go_ret
        have e1 := HNO.out HR1.out
        rw [HR.out] at e1
        exact ⟨by rw [e1]; rfl, hbl1⟩
      | true =>
        have hal2 := HYE.out HR1.out
        go_wp2
        go_roundw
        case rel => exact ⟨j + 1, by omega, by go_num, hal2, hbl1⟩
        case measure => simp [Go.RowKit.intOf]; omega
    · have hd : decide ((j : Int) < (n : Int)) = false := by simp; omega
      have e1 := hal.end (by rw [HN.out]; omega)
      rw [HR.out, HN.out, decide_eq_true h16] at e1
      go_wp2
      go_ret
      exact ⟨by rw [e1]; rfl, hbl⟩

set_option maxRecDepth 100000 in
theorem asks_impl (k : Int) (w : World) :
    Calls Try.prog 18 #[.int .i64 k] w fun e w' => e = .returned (.bool (asksB k)) ∧ w = w' := by
  go_enter Try.func18, Try.ntmps18
  go_wp2_with (go_at_call 49; refine (in_is k 1 4 _).mono ?_; rintro e w1 ⟨rfl, rfl⟩)
  go_ret
  exact ⟨rfl, rfl⟩

end Go.Proofs.Ytbohkohccnieiaa.Scripts
