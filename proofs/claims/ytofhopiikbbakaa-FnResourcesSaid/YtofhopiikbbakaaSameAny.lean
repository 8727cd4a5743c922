/-
  laws.sameInts: whether two rows of integers are the same list.
  Conditions: the rows lie in memory.
-/
import Derived.Test.YtofhopiikbbakaaEqI
namespace Go.Proofs.Ytofhopiikbbakaa.SameI
open Go Go.RowKit Go.Proofs.Ytofhopiikbbakaa.Mem Go.Proofs.Ytofhopiikbbakaa.EqI
set_option linter.unusedVariables false

set_option maxHeartbeats 1000000 in
set_option maxRecDepth 100000 in
theorem same_any (l1 h1 l2 h2 : Nat) (w : World) (a b : Option Addr) (n m c d : Nat) (xs ys : List Int) (ha : Row .i64 l1 h1 w a n xs) (hb : Row .i64 l2 h2 w b m ys) (hn : n ≤ 35184372088832) (hm : m ≤ 35184372088832) :
    Calls Try.prog 17 #[.slice a n c, .slice b m d] w fun e w' => e = .returned (.bool (decide (xs = ys))) ∧ ∃ q, w' = w.drewN q := by
  have HX := Lib.hid ha.len
  have HY := Lib.hid hb.len
  by_cases hnm : n = m
  · subst hnm
    obtain ⟨R, hR⟩ : ∃ R, Hid (decide (xs = ys) = R) := ⟨_, rfl⟩
    rw [hR.out]
    have HP := Lib.hid (pre_all xs ys)
    obtain ⟨p, hp⟩ : ∃ p, Hid (pre xs ys = p) := ⟨_, rfl⟩
    go_enter Try.func17, Try.ntmps17
    go_wp2
    go_loopw [5] (fun i wr => ∃ j q : Nat, j ≤ n ∧ i = .int .i64 j ∧ Hid (j + pre (xs.drop j) (ys.drop j) = p) ∧ wr = w.drewN q) (fun i _ => n - (intOf i).toNat)
    case atStart => exact ⟨0, 0, Nat.zero_le _, rfl, (by show 0 + pre xs ys = p; have := hp.out; omega), rfl⟩
    case round =>
      obtain ⟨j, q, hj, rfl, hq, rfl⟩ := hrel
      by_cases hlt : j < n
      · obtain ⟨b1, o1, rfl, _, _, hc1⟩ := ha.cell hlt
        obtain ⟨b2, o2, rfl, _, _, hc2⟩ := hb.cell hlt
        by_cases hxy : xs.getD j 0 = ys.getD j 0
        · have HN := Lib.hid (pre_next' hq.out (by have := HX.out; omega) (by have := HY.out; omega) hxy)
          rw [hxy] at hc1
          clear hxy
          go_wp2
          go_quiet (fail)
          go_wp2
          go_roundw
          case rel => exact ⟨j + 1, _, by omega, by go_num, HN, rfl⟩
          case measure => simp [intOf]; omega
        · have HN := Lib.hid (pre_diff (by have := HX.out; omega) (by have := HY.out; omega) hxy)
          obtain ⟨x, hx⟩ : ∃ x, Hid (xs.getD j 0 = x) := ⟨_, rfl⟩
          obtain ⟨y, hy⟩ : ∃ y, Hid (ys.getD j 0 = y) := ⟨_, rfl⟩
          rw [hx.out] at hc1 hxy
          rw [hy.out] at hc2 hxy
          have hRf : R = false := by
            rw [← hR.out]
            refine decide_eq_false fun he => ?_
            have h3 := (HP.out.2 he).1
            have h4 := hq.out
            rw [HN.out] at h4
            have h5 := hp.out
            have h6 := HX.out
            omega
          go_wp2
          go_quiet (fail)
          go_wp2
          go_ret
          exact ⟨by rw [hRf]; rfl, _, by first | exact World.drewN_drewN _ _ _ | rfl⟩
      · have hd : decide ((j : Int) < (n : Int)) = false := by simp; omega
        have hRt : R = true := by
          rw [← hR.out]
          refine decide_eq_true (HP.out.1 ?_)
          have h4 := hq.out
          rw [pre_end1 (by have := HX.out; omega)] at h4
          have h5 := hp.out
          have h6 := HX.out
          have h7 := HY.out
          omega
        go_wp2
        go_ret
        exact ⟨by rw [hRt]; rfl, _, rfl⟩
  · have hne : ((n : Int) != (m : Int)) = true := by simp; omega
    rw [decide_eq_false (by intro h; have h1 := HX.out; have h2 := HY.out; rw [h] at h1; omega)]
    go_enter Try.func17, Try.ntmps17
    go_wp2
    go_ret
    exact ⟨rfl, 0, rfl⟩

theorem same_below (l1 h1 l2 h2 : Nat) (w : World) (a b : Option Addr) (n m c d : Nat) (xs ys : List Int) (ha : Row .i64 l1 h1 w a n xs) (hb : Row .i64 l2 h2 w b m ys) (hn : n ≤ 35184372088832) (hm : m ≤ 35184372088832) :
    Calls Try.prog 17 #[.slice a n c, .slice b m d] w fun e w' => e = .returned (.bool (decide (xs = ys))) ∧ Below w.heap.size w w' :=
  (same_any l1 h1 l2 h2 w a b n m c d xs ys ha hb hn hm).mono fun _ _ ⟨h1, q, h2⟩ => ⟨h1, by rw [h2]; exact below_drewN (Below.refl _ _) _⟩
end Go.Proofs.Ytofhopiikbbakaa.SameI
