/-
  EqualInts, of the program (a label that is jumped back to) and of the model: whether two rows of integers are the same list.
  Conditions: the rows lie in memory.
-/
import Derived.Test.YtbohkohccnieiaaInts
import Derived.WalkMore
import Derived.ScopeJumps
namespace Go.Proofs.Ytbohkohccnieiaa.EqI
open Go Go.RowKit Go.Proofs.Ytbohkohccnieiaa.Mem
set_option linter.unusedVariables false

/-- How far two lists are the same. -/
def pre : List Int → List Int → Nat
  | x :: xs, y :: ys => if x = y then pre xs ys + 1 else 0
  | _, _ => 0
theorem pre_nil_left (ys : List Int) : pre [] ys = 0 := by cases ys <;> rfl
theorem pre_nil_right (xs : List Int) : pre xs [] = 0 := by cases xs <;> rfl
theorem pre_all : ∀ (xs ys : List Int), (pre xs ys = xs.length ∧ pre xs ys = ys.length) ↔ xs = ys := by
  intro xs
  induction xs with
  | nil => intro ys; rw [pre_nil_left]; cases ys <;> simp
  | cons x xs ih =>
    intro ys
    cases ys with
    | nil => simp [pre]
    | cons y ys =>
      unfold pre
      by_cases h : x = y
      · rw [if_pos h]
        have := ih ys
        simp only [List.length_cons, Nat.add_right_cancel_iff, List.cons.injEq]
        rw [this]
        exact ⟨fun e => ⟨h, e⟩, fun e => e.2⟩
      · rw [if_neg h]
        simp [h]
theorem drop_at {zs : List Int} {p : Nat} (h : p < zs.length) : zs.drop p = zs.getD p 0 :: zs.drop (p + 1) := by
  rw [List.drop_eq_getElem_cons h, List.getD_eq_getElem?_getD, List.getElem?_eq_getElem h]; rfl
theorem pre_next {xs ys : List Int} {j : Nat} (h1 : j < xs.length) (h2 : j < ys.length) (h : xs.getD j 0 = ys.getD j 0) : pre (xs.drop j) (ys.drop j) = pre (xs.drop (j + 1)) (ys.drop (j + 1)) + 1 := by
  rw [drop_at h1, drop_at h2, pre, if_pos h]
theorem pre_diff {xs ys : List Int} {j : Nat} (h1 : j < xs.length) (h2 : j < ys.length) (h : xs.getD j 0 ≠ ys.getD j 0) : pre (xs.drop j) (ys.drop j) = 0 := by
  rw [drop_at h1, drop_at h2, pre, if_neg h]
theorem pre_end1 {xs ys : List Int} {j : Nat} (h1 : xs.length ≤ j) : pre (xs.drop j) (ys.drop j) = 0 := by rw [List.drop_of_length_le h1]; exact pre_nil_left _
theorem pre_end2 {xs ys : List Int} {j : Nat} (h1 : ys.length ≤ j) : pre (xs.drop j) (ys.drop j) = 0 := by rw [List.drop_of_length_le h1]; exact pre_nil_right _
theorem pre_next' {xs ys : List Int} {j p : Nat} (h : j + pre (xs.drop j) (ys.drop j) = p) (h1 : j < xs.length) (h2 : j < ys.length) (he : xs.getD j 0 = ys.getD j 0) : j + 1 + pre (xs.drop (j + 1)) (ys.drop (j + 1)) = p := by
  rw [pre_next h1 h2 he] at h; omega

set_option maxHeartbeats 1000000 in
set_option maxRecDepth 100000 in
theorem spec_any (l1 h1 l2 h2 : Nat) (w : World) (a b : Option Addr) (n m c d : Nat) (xs ys : List Int) (ha : Row .i64 l1 h1 w a n xs) (hb : Row .i64 l2 h2 w b m ys) (hn : n ≤ 35184372088832) (hm : m ≤ 35184372088832) :
    Calls Try.prog 68 #[.slice a n c, .slice b m d] w fun e w' => e = .returned (.bool (decide (xs = ys))) ∧ ∃ q, w' = w.drewN q := by
  have HX := Lib.hid ha.len
  have HY := Lib.hid hb.len
  by_cases hnm : n = m
  · subst hnm
    obtain ⟨R, hR⟩ : ∃ R, Hid (decide (xs = ys) = R) := ⟨_, rfl⟩
    rw [hR.out]
    have HP := Lib.hid (pre_all xs ys)
    obtain ⟨p, hp⟩ : ∃ p, Hid (pre xs ys = p) := ⟨_, rfl⟩
    go_enter Try.func68, Try.ntmps68
    go_wp2
    go_loopw [5] (fun i wr => ∃ j q : Nat, j ≤ n ∧ i = .int .i64 j ∧ Hid (j + pre (xs.drop j) (ys.drop j) = p) ∧ wr = w.drewN q) (fun i _ => n - (intOf i).toNat)
    case atStart => exact ⟨0, 0, Nat.zero_le _, rfl, (by show 0 + pre xs ys = p; have := hp.out; omega), rfl⟩
    case round =>
      obtain ⟨j, q, hj, rfl, hq, rfl⟩ := hrel
      by_cases hlt : j < n
      · obtain ⟨b1, o1, rfl, _, _, hc1⟩ := ha.cell hlt
        obtain ⟨b2, o2, rfl, _, _, hc2⟩ := hb.cell hlt
        by_cases hxy : xs.getD j 0 = ys.getD j 0
        · have HN := Lib.hid (pre_next' hq.out (by have := HX.out; omega) (by have := HY.out; omega) hxy)
          rw [hxy] at hc1
          clear hxy
          go_wp2
          go_quiet (fail)
          go_wp2
          go_roundw
          case rel => exact ⟨j + 1, _, by omega, by go_num, HN, rfl⟩
          case measure => simp [intOf]; omega
        · have HN := Lib.hid (pre_diff (by have := HX.out; omega) (by have := HY.out; omega) hxy)
          obtain ⟨x, hx⟩ : ∃ x, Hid (xs.getD j 0 = x) := ⟨_, rfl⟩
          obtain ⟨y, hy⟩ : ∃ y, Hid (ys.getD j 0 = y) := ⟨_, rfl⟩
          rw [hx.out] at hc1 hxy
          rw [hy.out] at hc2 hxy
          have hRf : R = false := by
            rw [← hR.out]
            refine decide_eq_false fun he => ?_
            have h3 := (HP.out.2 he).1
            have h4 := hq.out
            rw [HN.out] at h4
            have h5 := hp.out
            have h6 := HX.out
            omega
          go_wp2
          go_quiet (fail)
          go_wp2
          go_ret
          exact ⟨by rw [hRf]; rfl, _, by first | exact World.drewN_drewN _ _ _ | rfl⟩
      · have hd : decide ((j : Int) < (n : Int)) = false := by simp; omega
        have hRt : R = true := by
          rw [← hR.out]
          refine decide_eq_true (HP.out.1 ?_)
          have h4 := hq.out
          rw [pre_end1 (by have := HX.out; omega)] at h4
          have h5 := hp.out
          have h6 := HX.out
          have h7 := HY.out
          omega
        go_wp2
        go_ret
        exact ⟨by rw [hRt]; rfl, _, rfl⟩
  · have hne : ((n : Int) != (m : Int)) = true := by simp; omega
    rw [decide_eq_false (by intro h; have h1 := HX.out; have h2 := HY.out; rw [h] at h1; omega)]
    go_enter Try.func68, Try.ntmps68
    go_wp2
    go_ret
    exact ⟨rfl, 0, rfl⟩

/-- The label's passes: so far the same. -/
def Pass (a b : Option Addr) (n m c d : Nat) (xs ys : List Int) (w : World) (a' : Act) (w' : World) : Prop :=
  ∃ (j q : Nat) (u6 u7 u8 u9 u10 u11 u12 u13 u14 u15 u16 u17 u18 u19 u20 u21 u22 u23 u24 u25 u26 u27 u28 : Value), a' = { tmps := #[.slice a n c, .slice b m d, undef, undef, .int .i64 0, .int .i64 j, u6, u7, u8, u9, u10, u11, u12, u13, u14, u15, u16, u17, u18, u19, u20, u21, u22, u23, u24, u25, u26, u27, u28, undef], defers := [] } ∧ j ≤ n ∧ j ≤ m ∧ Hid (j + pre (xs.drop j) (ys.drop j) = pre xs ys) ∧ w' = w.drewN q

set_option maxHeartbeats 1000000 in
set_option maxRecDepth 100000 in
theorem upto_any (l1 h1 l2 h2 : Nat) (w : World) (a b : Option Addr) (n m c d : Nat) (xs ys : List Int) (ha : Row .i64 l1 h1 w a n xs) (hb : Row .i64 l2 h2 w b m ys) (hn : n ≤ 35184372088832) (hm : m ≤ 35184372088832) :
    Calls Try.prog 79 #[.slice a n c, .slice b m d] w fun e w' => e = .returned (.int .i64 (pre xs ys)) ∧ ∃ q, w' = w.drewN q := by
  have HX := Lib.hid ha.len
  have HY := Lib.hid hb.len
  go_enter Try.func79, Try.ntmps79
  go_wp2
  refine wp_scope_jumps 0 (Pass a b n m c d xs ys w) (fun a' _ => n - (intOf (a'.tmps.getD 5 undef)).toNat) rfl ?_ ?_
  · have hj : Hid (0 + pre (xs.drop 0) (ys.drop 0) = pre xs ys) := by show 0 + pre xs ys = pre xs ys; omega
    by_cases hlt : 0 < n
    · by_cases hlt2 : 0 < m
      · obtain ⟨b1, o1, rfl, _, _, hc1⟩ := ha.cell hlt
        obtain ⟨b2, o2, rfl, _, _, hc2⟩ := hb.cell hlt2
        rw [Nat.add_zero] at hc1 hc2
        have hn0 : (0 : Int) < (n : Int) := by omega
        have hm0 : (0 : Int) < (m : Int) := by omega
        by_cases hxy : xs.getD 0 0 = ys.getD 0 0
        · have HN := Lib.hid (pre_next' hj.out (by have := HX.out; omega) (by have := HY.out; omega) hxy)
          rw [hxy] at hc1
          clear hxy
          go_wp2
          go_step3
          go_wp2
          go_quiet (fail)
          go_wp2
          go_step3
          exact ⟨rfl, 1, _, _, _, _, _, _, _, _, _, _, _, _, _, _, _, _, _, _, _, _, _, _, _, _, rfl, by omega, by omega, HN.out, rfl⟩
        · have HN := Lib.hid (pre_diff (by have := HX.out; omega) (by have := HY.out; omega) hxy)
          obtain ⟨x, hx⟩ : ∃ x, Hid (xs.getD 0 0 = x) := ⟨_, rfl⟩
          obtain ⟨y, hy⟩ : ∃ y, Hid (ys.getD 0 0 = y) := ⟨_, rfl⟩
          rw [hx.out] at hc1 hxy
          rw [hy.out] at hc2 hxy
          have HE := Lib.hid (show (pre xs ys : Nat) = 0 by have h1 := hj.out; rw [HN.out] at h1; omega)
          go_wp2
          go_step3
          go_wp2
          go_quiet (fail)
          go_wp2
          simp only [Exit.jump]
          go_ret
          exact ⟨by rw [HE.out]; rfl, _, by first | exact World.drewN_drewN _ _ _ | rfl⟩
      · have hd1 : (0 : Int) < (n : Int) := by omega
        have hd : decide ((0 : Int) < (m : Int)) = false := by simp; omega
        have HE := Lib.hid (show (pre xs ys : Nat) = 0 by have h1 := hj.out; rw [pre_end2 (by have := HY.out; omega)] at h1; omega)
        go_wp2
        go_step3
        go_wp2
        go_quiet (fail)
        go_wp2
        simp only [Exit.jump]
        go_ret
        exact ⟨by rw [HE.out]; rfl, _, by first | exact World.drewN_drewN _ _ _ | rfl⟩
    · have hd : decide ((0 : Int) < (n : Int)) = false := by simp; omega
      have HE := Lib.hid (show (pre xs ys : Nat) = 0 by have h1 := hj.out; rw [pre_end1 (by have := HX.out; omega)] at h1; omega)
      go_wp2
      go_step3
      go_wp2
      go_quiet (fail)
      go_wp2
      simp only [Exit.jump]
      go_ret
      exact ⟨by rw [HE.out]; rfl, _, by first | exact World.drewN_drewN _ _ _ | rfl⟩
  · rintro a' w' ⟨j, q, u6, u7, u8, u9, u10, u11, u12, u13, u14, u15, u16, u17, u18, u19, u20, u21, u22, u23, u24, u25, u26, u27, u28, rfl, hj1, hj2, hj, rfl⟩
    by_cases hlt : j < n
    · by_cases hlt2 : j < m
      · obtain ⟨b1, o1, rfl, _, _, hc1⟩ := ha.cell hlt
        obtain ⟨b2, o2, rfl, _, _, hc2⟩ := hb.cell hlt2
        by_cases hxy : xs.getD j 0 = ys.getD j 0
        · have HN := Lib.hid (pre_next' hj.out (by have := HX.out; omega) (by have := HY.out; omega) hxy)
          rw [hxy] at hc1
          clear hxy
          go_wp2
          go_quiet (fail)
          go_wp2
          go_step3
          refine ⟨rfl, ⟨j + 1, _, _, _, _, _, _, _, _, _, _, _, _, _, _, _, _, _, _, _, _, _, _, _, _, rfl, by omega, by omega, HN.out, rfl⟩, ?_⟩
          simp [intOf]
          omega
        · have HN := Lib.hid (pre_diff (by have := HX.out; omega) (by have := HY.out; omega) hxy)
          obtain ⟨x, hx⟩ : ∃ x, Hid (xs.getD j 0 = x) := ⟨_, rfl⟩
          obtain ⟨y, hy⟩ : ∃ y, Hid (ys.getD j 0 = y) := ⟨_, rfl⟩
          rw [hx.out] at hc1 hxy
          rw [hy.out] at hc2 hxy
          have HE := Lib.hid (show (pre xs ys : Nat) = j by have h1 := hj.out; rw [HN.out] at h1; omega)
          go_wp2
          go_quiet (fail)
          go_wp2
          simp only [Exit.jump]
          go_ret
          exact ⟨by rw [HE.out]; rfl, _, by first | exact World.drewN_drewN _ _ _ | rfl⟩
      · have hd1 : (j : Int) < (n : Int) := by omega
        have hd : decide ((j : Int) < (m : Int)) = false := by simp; omega
        have HE := Lib.hid (show (pre xs ys : Nat) = j by have h1 := hj.out; rw [pre_end2 (by have := HY.out; omega)] at h1; omega)
        go_wp2
        go_quiet (fail)
        go_wp2
        simp only [Exit.jump]
        go_ret
        exact ⟨by rw [HE.out]; rfl, _, by first | exact World.drewN_drewN _ _ _ | rfl⟩
    · have hd : decide ((j : Int) < (n : Int)) = false := by simp; omega
      have HE := Lib.hid (show (pre xs ys : Nat) = j by have h1 := hj.out; rw [pre_end1 (by have := HX.out; omega)] at h1; omega)
      go_wp2
      go_quiet (fail)
      go_wp2
      simp only [Exit.jump]
      go_ret
      exact ⟨by rw [HE.out]; rfl, _, by first | exact World.drewN_drewN _ _ _ | rfl⟩

set_option maxRecDepth 100000 in
theorem impl_any (l1 h1 l2 h2 : Nat) (w : World) (a b : Option Addr) (n m c d : Nat) (xs ys : List Int) (ha : Row .i64 l1 h1 w a n xs) (hb : Row .i64 l2 h2 w b m ys) (hn : n ≤ 35184372088832) (hm : m ≤ 35184372088832) :
    Calls Try.prog 51 #[.slice a n c, .slice b m d] w fun e w' => e = .returned (.bool (decide (xs = ys))) ∧ ∃ q, w' = w.drewN q := by
  have hup := upto_any l1 h1 l2 h2 w a b n m c d xs ys ha hb hn hm
  have hp := pre_all xs ys
  rw [ha.len, hb.len] at hp
  obtain ⟨R, hR⟩ : ∃ R, Hid (decide (xs = ys) = R) := ⟨_, rfl⟩
  rw [hR.out]
  have hRt : pre xs ys = n ∧ pre xs ys = m → R = true := fun h => by rw [← hR.out]; exact decide_eq_true (hp.1 h)
  have hRf : ¬ (pre xs ys = n ∧ pre xs ys = m) → R = false := fun h => by rw [← hR.out]; exact decide_eq_false (fun e => h (hp.2 e))
  clear hp
  generalize pre xs ys = p at hup hRt hRf
  by_cases h1 : p = n
  · by_cases h2 : p = m
    · have H := Lib.hid (hRt ⟨h1, h2⟩)
      clear hRt hRf
      subst h1 h2
      go_enter Try.func51, Try.ntmps51
      go_wp2_with (go_at_call 79; refine hup.mono ?_; rintro e w' ⟨rfl, q, rfl⟩)
      go_ret
      exact ⟨by rw [H.out]; rfl, _, rfl⟩
    · have H := Lib.hid (hRf (by omega))
      clear hRt hRf
      subst h1
      have hd : ((p : Int) == (m : Int)) = false := by simp; omega
      go_enter Try.func51, Try.ntmps51
      go_wp2_with (go_at_call 79; refine hup.mono ?_; rintro e w' ⟨rfl, q, rfl⟩)
      go_ret
      exact ⟨by rw [H.out]; rfl, _, rfl⟩
  · have H := Lib.hid (hRf (by omega))
    clear hRt hRf
    have hd : ((p : Int) == (n : Int)) = false := by simp; omega
    go_enter Try.func51, Try.ntmps51
    go_wp2_with (go_at_call 79; refine hup.mono ?_; rintro e w' ⟨rfl, q, rfl⟩)
    go_ret
    exact ⟨by rw [H.out]; rfl, _, rfl⟩

theorem spec_below (l1 h1 l2 h2 : Nat) (w : World) (a b : Option Addr) (n m c d : Nat) (xs ys : List Int) (ha : Row .i64 l1 h1 w a n xs) (hb : Row .i64 l2 h2 w b m ys) (hn : n ≤ 35184372088832) (hm : m ≤ 35184372088832) :
    Calls Try.prog 68 #[.slice a n c, .slice b m d] w fun e w' => e = .returned (.bool (decide (xs = ys))) ∧ Below w.heap.size w w' :=
  (spec_any l1 h1 l2 h2 w a b n m c d xs ys ha hb hn hm).mono fun _ _ ⟨h1, q, h2⟩ => ⟨h1, by rw [h2]; exact below_drewN (Below.refl _ _) _⟩
theorem impl_below (l1 h1 l2 h2 : Nat) (w : World) (a b : Option Addr) (n m c d : Nat) (xs ys : List Int) (ha : Row .i64 l1 h1 w a n xs) (hb : Row .i64 l2 h2 w b m ys) (hn : n ≤ 35184372088832) (hm : m ≤ 35184372088832) :
    Calls Try.prog 51 #[.slice a n c, .slice b m d] w fun e w' => e = .returned (.bool (decide (xs = ys))) ∧ Below w.heap.size w w' :=
  (impl_any l1 h1 l2 h2 w a b n m c d xs ys ha hb hn hm).mono fun _ _ ⟨h1, q, h2⟩ => ⟨h1, by rw [h2]; exact below_drewN (Below.refl _ _) _⟩
end Go.Proofs.Ytbohkohccnieiaa.EqI
