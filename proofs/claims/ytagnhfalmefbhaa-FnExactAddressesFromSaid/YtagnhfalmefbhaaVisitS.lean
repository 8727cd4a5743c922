/-
  Visits, the model: which are valid, the value of a resource, what comes from outside, which addresses are asked.
  Conditions: what is given lies in memory.
-/
import Derived.Test.YtagnhfalmefbhaaVisitMath
import Derived.Test.YtagnhfalmefbhaaFollowS
import Derived.Test.YtagnhfalmefbhaaHash
import Derived.Test.YtagnhfalmefbhaaMinMax
import Derived.Deep.CutBlock
namespace Go.Proofs.Ytagnhfalmefbhaa.Visits
set_option linter.unusedVariables false
open Go Go.RowKit Go.Proofs.Ytagnhfalmefbhaa.Mem Go.Proofs.Ytagnhfalmefbhaa.Gen Go.Proofs.Ytagnhfalmefbhaa.Res Go.Proofs.Ytagnhfalmefbhaa.Sites

theorem l1_is (x lo hi : Int) (w : World) :
    Calls Try.prog 41 #[.int .i64 x, .int .i64 lo, .int .i64 hi] w fun e w' => e = .returned (.bool (inR lo hi x)) ∧ w = w' := by
  by_cases h : lo ≤ x ∧ x ≤ hi
  · rw [inR_yes h.1 h.2]; exact Range.l1_yes x lo hi w h.1 h.2
  · rw [inR_no (by omega)]; exact Range.l1_no x lo hi w (by omega)

set_option maxRecDepth 100000 in
theorem held_spec (lo hi : Nat) (w : World) (a : Option Addr) (c : Nat) (zs : List Int) (h : Lies lo hi w (ints zs) (.slice a zs.length c)) (hm : zs.length ≤ 1048576) :
    Calls Try.prog 42 #[.slice a zs.length c, .int .i64 (zs.length : Int)] w fun e w' => e = .returned (.bool (heldB zs)) ∧ w = w' := by
  obtain ⟨n, hn⟩ : ∃ n, zs.length = n := ⟨_, rfl⟩
  obtain ⟨r, hr⟩ : ∃ r, heldB zs = r := ⟨_, rfl⟩
  have hrow := h.row'.1
  rw [hr]
  rw [hn] at hrow hm ⊢
  have HN := Lib.hid hn
  have HR := Lib.hid hr
  clear hn hr h
  go_enter Try.func42, Try.ntmps42
  go_wp2
  go_loopw [5] (fun i wr => ∃ j : Nat, j ≤ n ∧ i = .int .i64 j ∧ AllIn zs j ∧ w = wr) (fun i _ => n - (Go.RowKit.intOf i).toNat)
  case atStart => exact ⟨0, Nat.zero_le _, rfl, AllIn.zero _, rfl⟩
  case round =>
    obtain ⟨j, hj, rfl, hal, rfl⟩ := hrel
    by_cases hlt : j < n
    · obtain ⟨b, off, rfl, _, _, hc⟩ := hrow.cell hlt
      have HNO := Lib.hid (fun h => heldB_no (l := zs) (j := j) (by rw [HN.out]; exact hlt) h)
      have HYE := Lib.hid (fun h => hal.next h)
      obtain ⟨z, hz⟩ : ∃ z, zs.getD j 0 = z := ⟨_, rfl⟩
      rw [hz] at hc HNO HYE
      have hok := fun W => l1_is z 0 999 W
      obtain ⟨r1, hr1⟩ : ∃ r, inR 0 999 z = r := ⟨_, rfl⟩
      rw [hr1] at hok HNO HYE
      clear hr1 hz hal
      go_wp2_with fail
      go_at_call 41
      refine (hok _).mono ?_
      rintro e w1 ⟨rfl, rfl⟩
      cases r1 with
      | false =>
        have e1 := HNO.out rfl
        rw [HR.out] at e1
        have HE1 := Lib.hid e1
        clear e1
        go_wp2
        go_ret
        have e1 := HE1.out
        exact ⟨by rw [e1]; rfl, rfl⟩
      | true =>
        have hal2 := HYE.out rfl
        go_wp2
        go_roundw
        case rel => exact ⟨j + 1, by omega, by go_num, hal2, trivial⟩
        case measure => simp [Go.RowKit.intOf]; omega
    · have hd : decide ((j : Int) < (n : Int)) = false := by simp; omega
      have e1 := heldB_end hal (by rw [HN.out]; omega)
      rw [HR.out] at e1
      clear hrow hal
      go_wp2
      go_ret
      exact ⟨by rw [e1]; simp, rfl⟩

/-- What a visit's rows lead to can be read. -/
structure VSt (w : World) (P : TVisit) (a0 : Option Addr) (c0 : Nat) (a3 : Option Addr) (c3 : Nat) : Prop where
  r0 : Lies 0 w.heap.size w (dVersion P.f0) (.slice a0 P.f0.length c0)
  r3 : Lies 0 w.heap.size w (ints P.f3) (.slice a3 P.f3.length c3)
section
variable {w w' : World} {P : TVisit} {a0 a3 : Option Addr} {c0 c3 : Nat}
theorem VSt.below (h : VSt w P a0 c0 a3 c3) (hb : Below w.heap.size w w') : VSt w' P a0 c0 a3 c3 := ⟨(h.r0.below hb).more (Nat.le_refl _) hb.size, (h.r3.below hb).more (Nat.le_refl _) hb.size⟩
theorem VSt.of {l0 h0 l3 h3 : Nat} (k0 : Lies l0 h0 w (dVersion P.f0) (.slice a0 P.f0.length c0)) (k3 : Lies l3 h3 w (ints P.f3) (.slice a3 P.f3.length c3)) (e0 : h0 ≤ w.heap.size) (e3 : h3 ≤ w.heap.size) : VSt w P a0 c0 a3 c3 :=
  ⟨k0.more (Nat.zero_le _) e0, k3.more (Nat.zero_le _) e3⟩
end

set_option maxHeartbeats 1600000 in
set_option maxRecDepth 100000 in
theorem visit_spec (P : TVisit) (w : World) (a0 : Option Addr) (c0 : Nat) (a3 : Option Addr) (c3 : Nat) (h : VSt w P a0 c0 a3 c3) (hm0 : room (dVersion P.f0) ≤ 1048576) (hm3 : P.f3.length ≤ 1048576) :
    Calls Try.prog 12 #[.agg #[.slice a0 P.f0.length c0, .int .i64 P.f1, .int .i64 P.f2, .slice a3 P.f3.length c3]] w fun e w' => e = .returned (.bool (visitB P)) ∧ Below w.heap.size w w' := by
  obtain ⟨W, hWW⟩ : ∃ Z, w.alloc (.cells #[.slice a0 P.f0.length c0, .int .i64 P.f1, .int .i64 P.f2, .slice a3 P.f3.length c3] 27) = Z := ⟨_, rfl⟩
  have hBW : Below w.heap.size w W := by rw [← hWW]; exact (Below.refl _ _).alloc (Nat.le_refl _) _
  have qB : Blk 27 w.heap.size [.slice a0 P.f0.length c0, .int .i64 P.f1, .int .i64 P.f2, .slice a3 P.f3.length c3] W := by rw [← hWW]; exact Blk.new _ [_, _, _, _] w
  have hW := h.below hBW
  have k0 := site_spec 0 W.heap.size W a0 c0 P.f0 hW.r0 (Nat.le_refl _) hm0
  have k1 := fun W' => l1_is P.f1 0 1000 W'
  have k2 := fun W' => l1_is P.f2 0 9999 W'
  have k3 := fun (W' : World) (hb : Below W.heap.size W W') => held_spec 0 W'.heap.size W' a3 c3 P.f3 (hW.below hb).r3 hm3
  have hst : visitB P = (siteB P.f0 && (inR 0 1000 P.f1 && (inR 0 9999 P.f2 && (decide ((P.f3.length : Int) ≤ 8) && heldB P.f3)))) := rfl
  obtain ⟨b0, h0⟩ : ∃ r, siteB P.f0 = r := ⟨_, rfl⟩
  obtain ⟨b1, h1⟩ : ∃ r, inR 0 1000 P.f1 = r := ⟨_, rfl⟩
  obtain ⟨b2, h2⟩ : ∃ r, inR 0 9999 P.f2 = r := ⟨_, rfl⟩
  obtain ⟨b4, h4⟩ : ∃ r, heldB P.f3 = r := ⟨_, rfl⟩
  obtain ⟨n, hn⟩ : ∃ n, P.f3.length = n := ⟨_, rfl⟩
  obtain ⟨m, hm⟩ : ∃ n, P.f0.length = n := ⟨_, rfl⟩
  obtain ⟨b3, h3⟩ : ∃ r, decide ((n : Int) ≤ 8) = r := ⟨_, rfl⟩
  rw [h0, hm] at k0
  rw [h1] at k1
  rw [h2] at k2
  simp only [h4, hn] at k3
  rw [h0, h1, h2, hn, h3, h4] at hst
  rw [hst]
  rw [hn, hm] at qB hWW ⊢
  have x0 : W.cell? ⟨w.heap.size, 0, none⟩ = some (.slice a0 m c0) := qB.at rfl
  have x1 : W.cell? ⟨w.heap.size, 1, none⟩ = some (.int .i64 P.f1) := qB.at rfl
  have x2 : W.cell? ⟨w.heap.size, 2, none⟩ = some (.int .i64 P.f2) := qB.at rfl
  have x3 : W.cell? ⟨w.heap.size, 3, none⟩ = some (.slice a3 n c3) := qB.at rfl
  have HW := Lib.hid hWW
  clear h0 h1 h2 h4 hst h hm0 hm3 hWW hn hm hW
  go_enter Try.func12, Try.ntmps12
  go_upto_region 1 with fail
  try rw [HW.out]
  go_wp2_with fail
  go_at_call 40
  refine k0.mono ?_
  rintro e w1 ⟨rfl, hb1⟩
  have hB1 := hBW.trans (hb1.mono hBW.size)
  have qB := qB.below hb1
  clear x0 x1 x2 x3
  cases b0
  · go_wp2
    go_ret
    exact ⟨rfl, hB1⟩
  have x0 : w1.cell? ⟨w.heap.size, 0, none⟩ = some (.slice a0 m c0) := qB.at rfl
  have x1 : w1.cell? ⟨w.heap.size, 1, none⟩ = some (.int .i64 P.f1) := qB.at rfl
  have x2 : w1.cell? ⟨w.heap.size, 2, none⟩ = some (.int .i64 P.f2) := qB.at rfl
  have x3 : w1.cell? ⟨w.heap.size, 3, none⟩ = some (.slice a3 n c3) := qB.at rfl
  have k3 := k3 _ hb1
  go_wp2_with fail
  go_at_call 41
  refine (k1 _).mono ?_
  rintro e w2 ⟨rfl, rfl⟩
  cases b1
  · go_wp2
    go_ret
    exact ⟨rfl, hB1⟩
  go_wp2_with fail
  go_at_call 41
  refine (k2 _).mono ?_
  rintro e w2 ⟨rfl, rfl⟩
  cases b2
  · go_wp2
    go_ret
    exact ⟨rfl, hB1⟩
  cases b3
  · go_wp2
    go_ret
    exact ⟨rfl, hB1⟩
  go_wp2_with fail
  go_at_call 42
  refine k3.mono ?_
  rintro e w2 ⟨rfl, rfl⟩
  go_wp2
  go_ret
  exact ⟨rfl, hB1⟩

set_option maxHeartbeats 1600000 in
set_option maxRecDepth 100000 in
theorem value_spec (lo hi : Nat) (R : TResource) (w : World) (a : Option Addr) (c : Nat) (h : Lies lo hi w (ints R.f1) (.slice a R.f1.length c)) (hh : hi ≤ w.heap.size) (hm : R.f1.length ≤ 1048576) :
    Calls Try.prog 21 #[.agg #[.int .i64 R.f0, .slice a R.f1.length c, .int .i64 R.f2.f0, .int .i64 R.f2.f1, .int .i64 R.f2.f2]] w fun e w' => e = .returned (.int .i64 (valueR R)) ∧ Below w.heap.size w w' := by
  obtain ⟨W, hWW⟩ : ∃ Z, w.alloc (.cells #[.int .i64 R.f0, .slice a R.f1.length c, .int .i64 R.f2.f0, .int .i64 R.f2.f1, .int .i64 R.f2.f2] 39) = Z := ⟨_, rfl⟩
  have hBW : Below w.heap.size w W := by rw [← hWW]; exact (Below.refl _ _).alloc (Nat.le_refl _) _
  have qB : Blk 39 w.heap.size [.int .i64 R.f0, .slice a R.f1.length c, .int .i64 R.f2.f0, .int .i64 R.f2.f1, .int .i64 R.f2.f2] W := by rw [← hWW]; exact Blk.new _ [_, _, _, _, _] w
  have hrow := h.row'.1
  have hV : Calls Try.prog 55 #[.agg #[.int .i64 R.f0, .slice a R.f1.length c, .int .i64 R.f2.f0, .int .i64 R.f2.f1, .int .i64 R.f2.f2]] W fun e w' => e = .returned (.bool (okRes R)) ∧ Below W.heap.size W w' := valid_spec lo hi R.f0 R.f2.f0 R.f2.f1 R.f2.f2 W a R.f1.length c R.f1 (hrow.under (B := w.heap.size) hBW hh) hm
  have hbody := @hasR_body R
  have hval : valueR R = if (okRes R && decide (R.f0 ≤ 2)) = true then least 999 (R.f1.sum % 1000 + 1) else 0 := rfl
  have hh2 : hasR R = (okRes R && decide (R.f0 ≤ 2)) := rfl
  rw [hh2] at hbody
  obtain ⟨ok, hok⟩ : ∃ b, okRes R = b := ⟨_, rfl⟩
  obtain ⟨n, hn⟩ : ∃ n, R.f1.length = n := ⟨_, rfl⟩
  obtain ⟨k, hk⟩ : ∃ k, R.f0 = k := ⟨_, rfl⟩
  rw [hok, hk] at hval hbody
  rw [hok] at hV
  rw [hn] at hV qB hrow hWW ⊢
  rw [hk] at hV qB hWW ⊢
  obtain ⟨v, hv⟩ : ∃ v, valueR R = v := ⟨_, rfl⟩
  rw [hv] at hval ⊢
  have HN := Lib.hid hn
  have HW := Lib.hid hWW
  have hrow := hrow.under (B := w.heap.size) hBW hh
  have x0 : W.cell? ⟨w.heap.size, 0, none⟩ = some (.int .i64 k) := qB.at rfl
  have x1 : W.cell? ⟨w.heap.size, 1, none⟩ = some (.slice a n c) := qB.at rfl
  have x2 : W.cell? ⟨w.heap.size, 2, none⟩ = some (.int .i64 R.f2.f0) := qB.at rfl
  have x3 : W.cell? ⟨w.heap.size, 3, none⟩ = some (.int .i64 R.f2.f1) := qB.at rfl
  have x4 : W.cell? ⟨w.heap.size, 4, none⟩ = some (.int .i64 R.f2.f2) := qB.at rfl
  clear hWW hn hk hv hok h hm hh2
  go_enter Try.func21, Try.ntmps21
  go_upto_region 1 with fail
  try rw [HW.out]
  go_wp2_with fail
  go_at_call 55
  refine hV.mono ?_
  rintro e w1 ⟨rfl, hb1⟩
  have hB1 := hBW.trans (hb1.mono hBW.size)
  have qB := qB.below hb1
  have hrow := hrow.under hb1 (Nat.le_trans hh hBW.size)
  clear x0 x1 x2 x3 x4
  have x0 : w1.cell? ⟨w.heap.size, 0, none⟩ = some (.int .i64 k) := qB.at rfl
  have x1 : w1.cell? ⟨w.heap.size, 1, none⟩ = some (.slice a n c) := qB.at rfl
  cases ok with
  | false =>
    replace hval : v = 0 := by rw [hval]; simp
    subst hval
    go_wp2
    go_ret
    exact ⟨rfl, hB1⟩
  | true =>
    by_cases hk2 : k ≤ 2
    · have hd : decide (k > 2) = false := by rw [decide_eq_false_iff_not]; omega
      have hd2 : decide (2 < k) = false := hd
      rw [decide_eq_true hk2] at hval hbody
      rw [if_pos (by rfl)] at hval
      obtain ⟨hb6, hbd⟩ := hbody rfl
      have hsum := sumUp_in hbd
      have HB := Lib.hid hbd
      have HS := Lib.hid hsum
      have HVL := Lib.hid hval
      clear hval hbody hbd hsum
      have hn6 : n ≤ 6 := by rw [← HN.out]; exact hb6
      clear hb6
      go_wp2
      go_loopw [3, 4] (fun s i wr => ∃ j : Nat, j ≤ n ∧ i = .int .i64 j ∧ s = .int .i64 (sumUp R.f1 j % 1000) ∧ w1 = wr) (fun _ i _ => n - (Go.RowKit.intOf i).toNat)
      case atStart => exact ⟨0, Nat.zero_le _, rfl, rfl, rfl⟩
      case round =>
        obtain ⟨j, hj, rfl, rfl, rfl⟩ := hrel
        obtain ⟨s, hs⟩ : ∃ s, sumUp R.f1 j % 1000 = s := ⟨_, rfl⟩
        rw [hs]
        have hs0 : 0 ≤ s ∧ s ≤ 999 := by omega
        by_cases hlt : j < n
        · obtain ⟨b, off, rfl, _, _, hc⟩ := hrow.cell hlt
          have hnx := sumUp_next (l := R.f1) (j := j) (by rw [HN.out]; exact hlt)
          have hbz := HB.out j (by rw [HN.out]; exact hlt)
          obtain ⟨z, hz⟩ : ∃ z, R.f1.getD j 0 = z := ⟨_, rfl⟩
          rw [hz] at hc hnx hbz
          obtain ⟨t, ht⟩ : ∃ t, (s + z) % 1000 = t := ⟨_, rfl⟩
          have htm : (s + z).tmod 1000 = t := by rw [Int.tmod_eq_emod_of_nonneg (by omega)]; exact ht
          have hnx2 : sumUp R.f1 (j + 1) % 1000 = t := by rw [hnx]; omega
          have HNX := Lib.hid hnx2
          have hw1 : wrap64 (s + z) = s + z := IntWalk.wrap64_in _ ⟨by omega, by omega⟩
          have hw2 : IntKind.i64.wrap (s + z) = s + z := by rw [IntKind.wrap_i64]; omega
          clear hz hs ht hnx hnx2
          go_wp2
          go_roundw
          case rel => exact ⟨j + 1, by omega, by go_num, by rw [HNX.out], trivial⟩
          case measure => simp [Go.RowKit.intOf]; omega
        · have hd : decide ((j : Int) < (n : Int)) = false := by simp; omega
          have hmin := fun W => MinMax.min_spec 999 (s + 1) v W (by
            rw [HVL.out, ← sumUp_all (l := R.f1) (j := j) (by rw [HN.out]; omega), hs]
            unfold least
            split <;> omega)
          have hw1 : wrap64 (s + 1) = s + 1 := IntWalk.wrap64_in _ ⟨by omega, by omega⟩
          have hw2 : IntKind.i64.wrap (s + 1) = s + 1 := by rw [IntKind.wrap_i64]; omega
          clear hs
          go_wp2_with fail
          go_at_call 56
          refine (hmin _).mono ?_
          rintro e w2 ⟨rfl, hb2⟩
          go_wp2
          go_ret
          exact ⟨rfl, hB1.trans (hb2.mono hB1.size)⟩
    · have hd : decide (k > 2) = true := by rw [decide_eq_true_eq]; omega
      have hd2 : decide (2 < k) = true := hd
      replace hval : v = 0 := by rw [hval, decide_eq_false hk2]; simp
      subst hval
      go_wp2
      go_ret
      exact ⟨rfl, hB1⟩

/-- Addresses of a call's own. -/
def GivenA (w : World) (Q : List TAddress) (e : Ending) (w' : World) : Prop :=
  ∃ (x : Option Addr) (y : Nat) (S : Nat → Prop), e = .returned (.slice x Q.length y) ∧ Owns w' (dAddress Q) (.slice x Q.length y) S ∧ (∀ t, S t → w.heap.size ≤ t ∧ t < w'.heap.size) ∧ Below w.heap.size w w'
theorem given_none {w : World} (W : World) (hB : Below w.heap.size w W) : GivenA w [] (.returned (.slice (some ⟨W.heap.size, 0, none⟩) 0 0)) (W.alloc (.cells #[] 29)) :=
  ⟨_, 0, fun _ => False, rfl, ⟨_, 0, rfl, Nat.le_refl _, by unfold maxLen; omega, fun h => absurd h (by simp)⟩, fun _ h => h.elim, hB.alloc hB.size _⟩

/-- All the cells of a block of five are written. -/
theorem put5 {T : TypeId} {w w1 : World} {B b : Nat} {t0 t1 t2 t3 t4 v0 v1 v2 v3 v4 : Value} (q : Blk T b [t0, t1, t2, t3, t4] w1) (hb : B ≤ b) (hB : Below B w w1) :
    ∃ V, (((((w1.setCell ⟨b, 0, none⟩ v0).setCell ⟨b, 1, none⟩ v1).setCell ⟨b, 2, none⟩ v2).setCell ⟨b, 3, none⟩ v3).setCell ⟨b, 4, none⟩ v4) = V ∧ Blk T b [v0, v1, v2, v3, v4] V ∧ V.heap.size = w1.heap.size ∧ (∀ t, t ≠ b → V.heap[t]? = w1.heap[t]?) ∧ Below B w V := by
  have qF := (((((q.set 0 v0).set 1 v1).set 2 v2).set 3 v3).set 4 v4)
  simp only [List.set_cons_zero, List.set_cons_succ] at qF
  refine ⟨_, rfl, qF, by simp only [gsize_set], fun t hne => by rw [heap_setCell_other _ _ t _ (by dsimp only; omega), heap_setCell_other _ _ t _ (by dsimp only; omega), heap_setCell_other _ _ t _ (by dsimp only; omega), heap_setCell_other _ _ t _ (by dsimp only; omega), heap_setCell_other _ _ t _ (by dsimp only; omega)], (((((hB.setCell (p := ⟨b, 0, none⟩) hb v0).setCell (p := ⟨b, 1, none⟩) hb v1).setCell (p := ⟨b, 2, none⟩) hb v2).setCell (p := ⟨b, 3, none⟩) hb v3).setCell (p := ⟨b, 4, none⟩) hb v4)⟩

set_option maxRecDepth 100000 in
theorem mod1000s (a : Int) (w : World) (ha : 0 ≤ a) (hb : a ≤ 9007199254740992) :
    Calls Try.prog 60 #[.int .i64 a, .int .i64 1000] w fun e w' => e = .returned (.int .i64 (a % 1000)) ∧ w = w' := by
  have h1 := Int.emod_nonneg a (show (1000 : Int) ≠ 0 by omega)
  have h2 := Int.emod_lt_of_pos a (show (0 : Int) < 1000 by omega)
  obtain ⟨r, hr⟩ : ∃ r, a % 1000 = r := ⟨_, rfl⟩
  have ht : a.tmod 1000 = r := by rw [Int.tmod_eq_emod_of_nonneg ha]; exact hr
  rw [hr] at h1 h2 ⊢
  have ht2 : (r + 1000).tmod 1000 = r := by rw [Int.tmod_eq_emod_of_nonneg (by omega)]; omega
  have hw1 : wrap64 (r + 1000) = r + 1000 := IntWalk.wrap64_in _ ⟨by omega, by omega⟩
  have hw2 : IntKind.i64.wrap (r + 1000) = r + 1000 := by rw [IntKind.wrap_i64]; omega
  have hI := fun W => l1_is 1000 1 1000000000000 W
  rw [inR_yes (by omega) (by omega)] at hI
  clear hr
  go_enter Try.func60, Try.ntmps60
  go_wp2_with (go_at_call 41; refine (hI _).mono ?_; rintro e w1 ⟨rfl, rfl⟩)
  go_ret
  exact ⟨rfl, rfl⟩

set_option maxHeartbeats 4000000 in
set_option maxRecDepth 100000 in
theorem live_spec (P : TVisit) (W : TWant) (n : Int) (w : World) (a0 : Option Addr) (c0 : Nat) (a3 : Option Addr) (c3 : Nat) (h : VSt w P a0 c0 a3 c3) (hm0 : room (dVersion P.f0) ≤ 1048576) (hm3 : P.f3.length ≤ 1048576) (hW : WfA W.f1) (hn : (Lit.int .i64 n).wf = true) :
    Calls Try.prog 24 #[.agg #[.slice a0 P.f0.length c0, .int .i64 P.f1, .int .i64 P.f2, .slice a3 P.f3.length c3], .agg #[.int .i64 W.f0, .int .i64 W.f1.f0, .int .i64 W.f1.f1, .int .i64 W.f1.f2], .int .i64 n] w fun e w' => e = .returned (.int .i64 (liveV P W n)) ∧ Below w.heap.size w w' := by
  obtain ⟨W0, hW0⟩ : ∃ Z, (w.alloc (.cells #[.slice a0 P.f0.length c0, .int .i64 P.f1, .int .i64 P.f2, .slice a3 P.f3.length c3] 27)).alloc (.cells #[.int .i64 W.f0, .int .i64 W.f1.f0, .int .i64 W.f1.f1, .int .i64 W.f1.f2] 31) = Z := ⟨_, rfl⟩
  have qB : Blk 27 w.heap.size [.slice a0 P.f0.length c0, .int .i64 P.f1, .int .i64 P.f2, .slice a3 P.f3.length c3] W0 := by rw [← hW0]; exact (Blk.new _ [_, _, _, _] w).alloc _
  have qW : Blk 31 (w.heap.size + 1) [.int .i64 W.f0, .int .i64 W.f1.f0, .int .i64 W.f1.f1, .int .i64 W.f1.f2] W0 := by
    have := Blk.new 31 [.int .i64 W.f0, .int .i64 W.f1.f0, .int .i64 W.f1.f1, .int .i64 W.f1.f2] (w.alloc (.cells #[.slice a0 P.f0.length c0, .int .i64 P.f1, .int .i64 P.f2, .slice a3 P.f3.length c3] 27))
    rw [gsize_alloc] at this
    rw [← hW0]; exact this
  have hB : Below w.heap.size w W0 := by rw [← hW0]; exact ((Below.refl _ _).alloc (Nat.le_refl _) _).alloc (by rw [gsize_alloc]; omega) _
  have hz : w.heap.size + 2 ≤ W0.heap.size := qW.lt
  have kV := visit_spec P W0 a0 c0 a3 c3 (h.below hB) hm0 hm3
  have kI := fun W' => l1_is n 0 100 W'
  have hlive : liveV P W n = (if (visitB P && inR 0 100 n) = true then (if W.f0 = 1 then valueR (followed P.f0 W.f1 (P.f1 + n)).2 else if W.f0 = 2 then least 999 (P.f1 + n) else if W.f0 = 3 then Hsh.hash [P.f2, n] % 1000 else if W.f0 = 4 ∧ 0 < P.f3.length then P.f3.getD (n.toNat % P.f3.length) 0 else 0) else 0) := rfl
  have hvis := @visit_at P
  obtain ⟨vb, hvb⟩ : ∃ b, visitB P = b := ⟨_, rfl⟩
  obtain ⟨nb, hnb⟩ : ∃ b, inR 0 100 n = b := ⟨_, rfl⟩
  rw [hvb] at kV hlive hvis
  rw [hnb] at kI hlive
  obtain ⟨r, hr⟩ : ∃ r, liveV P W n = r := ⟨_, rfl⟩
  rw [hr] at hlive ⊢
  have x0 : W0.cell? ⟨w.heap.size, 0, none⟩ = some (.slice a0 P.f0.length c0) := qB.at rfl
  have x1 : W0.cell? ⟨w.heap.size, 1, none⟩ = some (.int .i64 P.f1) := qB.at rfl
  have x2 : W0.cell? ⟨w.heap.size, 2, none⟩ = some (.int .i64 P.f2) := qB.at rfl
  have x3 : W0.cell? ⟨w.heap.size, 3, none⟩ = some (.slice a3 P.f3.length c3) := qB.at rfl
  have y0 : W0.cell? ⟨w.heap.size + 1, 0, none⟩ = some (.int .i64 W.f0) := qW.at rfl
  have y1 : W0.cell? ⟨w.heap.size + 1, 1, none⟩ = some (.int .i64 W.f1.f0) := qW.at rfl
  have y2 : W0.cell? ⟨w.heap.size + 1, 2, none⟩ = some (.int .i64 W.f1.f1) := qW.at rfl
  have y3 : W0.cell? ⟨w.heap.size + 1, 3, none⟩ = some (.int .i64 W.f1.f2) := qW.at rfl
  have HW := Lib.hid hW0
  have HL := Lib.hid hlive
  have HNB := Lib.hid hnb
  have HVIS := Lib.hid hvis
  clear hW0 hvb hnb hr hlive hvis
  go_enter Try.func24, Try.ntmps24
  go_upto_region 1 with fail
  try rw [HW.out]
  go_wp2_with fail
  go_at_call 12
  refine kV.mono ?_
  rintro e w1 ⟨rfl, hb1⟩
  have hB1 := hB.trans (hb1.mono hB.size)
  have qB := qB.below hb1
  have qW := qW.below hb1
  have hz1 := Nat.le_trans hz hb1.size
  clear x0 x1 x2 x3 y0 y1 y2 y3 kV
  have x0 : w1.cell? ⟨w.heap.size, 0, none⟩ = some (.slice a0 P.f0.length c0) := qB.at rfl
  have x1 : w1.cell? ⟨w.heap.size, 1, none⟩ = some (.int .i64 P.f1) := qB.at rfl
  have x2 : w1.cell? ⟨w.heap.size, 2, none⟩ = some (.int .i64 P.f2) := qB.at rfl
  have x3 : w1.cell? ⟨w.heap.size, 3, none⟩ = some (.slice a3 P.f3.length c3) := qB.at rfl
  have y0 : w1.cell? ⟨w.heap.size + 1, 0, none⟩ = some (.int .i64 W.f0) := qW.at rfl
  have y1 : w1.cell? ⟨w.heap.size + 1, 1, none⟩ = some (.int .i64 W.f1.f0) := qW.at rfl
  have y2 : w1.cell? ⟨w.heap.size + 1, 2, none⟩ = some (.int .i64 W.f1.f1) := qW.at rfl
  have y3 : w1.cell? ⟨w.heap.size + 1, 3, none⟩ = some (.int .i64 W.f1.f2) := qW.at rfl
  cases vb
  · have hr0 : r = 0 := by rw [HL.out]; simp
    subst hr0
    go_wp2
    go_ret
    exact ⟨rfl, hB1⟩
  have hrn : nb = false → r = 0 := fun e => by rw [HL.out, e]; simp
  cases nb
  · have hr0 := hrn rfl
    subst hr0
    clear hrn
    go_wp2_with fail
    go_at_call 41
    refine (kI _).mono ?_
    rintro e w2 ⟨rfl, rfl⟩
    go_wp2
    go_ret
    exact ⟨rfl, hB1⟩
  clear hrn
  obtain ⟨hsb, htk, hsd, hl8, hheld⟩ := HVIS.out rfl
  have hn100 := inR_at HNB.out
  have hr1 : r = (if W.f0 = 1 then valueR (followed P.f0 W.f1 (P.f1 + n)).2 else if W.f0 = 2 then least 999 (P.f1 + n) else if W.f0 = 3 then Hsh.hash [P.f2, n] % 1000 else if W.f0 = 4 ∧ 0 < P.f3.length then P.f3.getD (n.toNat % P.f3.length) 0 else 0) := by rw [HL.out]; rfl
  have HSB := Lib.hid hsb
  have HHE := Lib.hid hheld
  clear hsb hheld
  by_cases w1e : W.f0 = 1
  · have HASK : r = valueR (followed P.f0 W.f1 (P.f1 + n)).2 := by rw [hr1, if_pos w1e]
    clear hr1
    rw [w1e] at qW y0
    have HK1 := Lib.hid w1e
    clear w1e
    go_upto_region 5 with (go_at_call 41; refine (kI _).mono ?_; rintro e w2 ⟨rfl, rfl⟩)
    have hf := follow_spec 0 w1.heap.size w1 a0 c0 P.f0 (h.below hB1).r0 (Nat.le_refl _) hm0 W.f1 hW (P.f1 + n)
    have hlen : (followed P.f0 W.f1 (P.f1 + n)).2.f1.length ≤ 1048576 := by obtain ⟨B, e⟩ := fol_ans (l := P.f0) (t := P.f1 + n) (k := 4) (Q := [W.f1]) ⟨W.f1, rfl⟩; unfold followed; rw [e]; exact Nat.le_trans (room_answer P.f0 B (P.f1 + n) _ (Nat.le_refl _)) hm0
    obtain ⟨RR, hRR⟩ : ∃ RR, followed P.f0 W.f1 (P.f1 + n) = RR := ⟨_, rfl⟩
    rw [hRR] at hf hlen HASK
    have hw1 : wrap64 (P.f1 + n) = P.f1 + n := IntWalk.wrap64_in _ ⟨by omega, by omega⟩
    have hw2 : IntKind.i64.wrap (P.f1 + n) = P.f1 + n := by rw [IntKind.wrap_i64]; omega
    replace HASK := Lib.hid HASK
    obtain ⟨m0, hm00⟩ : ∃ m, P.f0.length = m := ⟨_, rfl⟩
    rw [hm00] at hf qB x0
    try rw [hm00]
    clear hRR hm00
    go_wp2_with fail
    go_at_call 59
    refine hf.mono ?_
    rintro e w2 ⟨k1, m1, S1, k2, m2, S2, rfl, o1, o2, u1, u2, d12, hb2⟩
    have qB := qB.below hb2
    have qW := qW.below hb2
    have hB2 := hB1.trans (hb2.mono hB1.size)
    have hz2 := hb2.size
    clear hf x0 x1 x2 x3 y0 y1 y2 y3
    obtain ⟨q, hq⟩ : ∃ q, RR.2 = q := ⟨_, rfl⟩
    rw [hq] at o1 hlen
    try rw [hq] at HASK
    try rw [hq]
    obtain ⟨qs, hqs⟩ : ∃ q, RR.1 = q := ⟨_, rfl⟩
    try rw [hqs] at o2
    try rw [hqs] at HASK
    try rw [hqs]
    clear hq hqs
    obtain ⟨W3, hW3⟩ : ∃ Z, w2.alloc (.cells #[.int .i64 0, .slice none 0 0, .int .i64 0, .int .i64 0, .int .i64 0] 39) = Z := ⟨_, rfl⟩
    obtain ⟨b3, hb3⟩ : ∃ b, w2.heap.size = b := ⟨_, rfl⟩
    have qN : Blk 39 b3 [.int .i64 0, .slice none 0 0, .int .i64 0, .int .i64 0, .int .i64 0] W3 := by rw [← hW3, ← hb3]; exact Blk.new _ [_, _, _, _, _] w2
    have hA : Below w2.heap.size w2 W3 := by rw [← hW3]; exact (Below.refl _ _).alloc (Nat.le_refl _) _
    have hB3 := hB2.trans (hA.mono hB2.size)
    have o1 := Owns.below o1 hA
    have o2 := Owns.below o2 hA
    have hb3w : w.heap.size + 2 ≤ b3 := by omega
    have hb3l := qN.lt
    have z0 : W3.cell? ⟨b3, 0, none⟩ = some (.int .i64 0) := qN.at rfl
    have f0 := qN.free 0
    have z1 : W3.cell? ⟨b3, 1, none⟩ = some (.slice none 0 0) := qN.at rfl
    have f1 := qN.free 1
    have z2 : W3.cell? ⟨b3, 2, none⟩ = some (.int .i64 0) := qN.at rfl
    have f2 := qN.free 2
    have z3 : W3.cell? ⟨b3, 3, none⟩ = some (.int .i64 0) := qN.at rfl
    have f3 := qN.free 3
    have z4 : W3.cell? ⟨b3, 4, none⟩ = some (.int .i64 0) := qN.at rfl
    have f4 := qN.free 4
    obtain ⟨VF, hVF, qF, hsF, hkF, hF⟩ := put5 (w := w) (B := w.heap.size) (b := b3) (w1 := W3) (v0 := .int .i64 q.f0) (v1 := .slice k1 q.f1.length m1) (v2 := .int .i64 q.f2.f0) (v3 := .int .i64 q.f2.f1) (v4 := .int .i64 q.f2.f2) qN (by omega) hB3
    have p1 := Owns.keep o1 (w' := VF) (fun t _ hS => hkF t (by have := u1 t hS; omega))
    have p2 := Owns.keep o2 (w' := VF) (fun t _ hS => hkF t (by have := u2 t hS; omega))
    have hl1 : ∀ t, S1 t → 0 ≤ t ∧ t < VF.heap.size := fun t hS => ⟨Nat.zero_le _, by have := u1 t hS; have := hA.size; omega⟩
    have hl2 : ∀ t, S2 t → w.heap.size ≤ t ∧ t < VF.heap.size := fun t hS => ⟨by have := u2 t hS; have := hB1.size; omega, by have := u2 t hS; have := hA.size; omega⟩
    clear hA o1 o2
    have hVal := value_spec 0 VF.heap.size q VF k1 m1 (Owns.lies p1 hl1) (Nat.le_refl _) hlen
    have hra : r = valueR q := HASK.out
    subst hra
    go_upto_region 6 with fail
    try rw [hVF]
    clear hVF z0 f0 z1 f1 z2 f2 z3 f3 z4 f4
    have g0 : VF.cell? ⟨b3, 0, none⟩ = some (.int .i64 q.f0) := qF.at rfl
    have g1 : VF.cell? ⟨b3, 1, none⟩ = some (.slice k1 q.f1.length m1) := qF.at rfl
    have g2 : VF.cell? ⟨b3, 2, none⟩ = some (.int .i64 q.f2.f0) := qF.at rfl
    have g3 : VF.cell? ⟨b3, 3, none⟩ = some (.int .i64 q.f2.f1) := qF.at rfl
    have g4 : VF.cell? ⟨b3, 4, none⟩ = some (.int .i64 q.f2.f2) := qF.at rfl
    go_wp2_with fail
    go_at_call 21
    refine hVal.mono ?_
    rintro e w4 ⟨rfl, hb4⟩
    go_wp2
    go_ret
    exact ⟨rfl, hF.trans (hb4.mono hF.size)⟩
  have e1 : (W.f0 == 1) = false := by simpa using w1e
  rw [if_neg w1e] at hr1
  by_cases w2e : W.f0 = 2
  · rw [if_pos w2e] at hr1
    rw [w2e] at qW y0 e1
    have hw1 : wrap64 (P.f1 + n) = P.f1 + n := IntWalk.wrap64_in _ ⟨by omega, by omega⟩
    have hw2 : IntKind.i64.wrap (P.f1 + n) = P.f1 + n := by rw [IntKind.wrap_i64]; omega
    have hmin := fun W => MinMax.min_spec 999 (P.f1 + n) r W (by rw [hr1]; unfold least; split <;> omega)
    clear hr1 w1e
    have HK1 := Lib.hid w2e
    clear w2e
    go_wp2_with (first | (go_at_call 41; refine (kI _).mono ?_; rintro e w2 ⟨rfl, rfl⟩) | fail)
    go_at_call 56
    refine (hmin _).mono ?_
    rintro e w3 ⟨rfl, hb3⟩
    go_wp2
    go_ret
    exact ⟨rfl, hB1.trans (hb3.mono hB1.size)⟩
  have e2 : (W.f0 == 2) = false := by simpa using w2e
  rw [if_neg w2e] at hr1
  by_cases w3e : W.f0 = 3
  · rw [if_pos w3e] at hr1
    rw [w3e] at qW y0 e1 e2
    have HK1 := Lib.hid w3e
    clear w3e w1e w2e
    have hrw : Row .i64 0 (w1.heap.size + 1) (w1.alloc (.cells #[.int .i64 P.f2, .int .i64 n] 3)) (some ⟨w1.heap.size, 0, none⟩) 2 [P.f2, n] :=
      ⟨rfl, fun z hz => by
        rcases List.mem_cons.1 hz with rfl | hz
        · exact WalkArith.wf_i64 (by omega)
        · rw [List.mem_singleton.1 hz]; exact hn, fun _ => ⟨_, 0, rfl, Nat.zero_le _, Nat.lt_succ_self _, fun j hj => by
        have q := Blk.new 3 [.int .i64 P.f2, .int .i64 n] w1
        rcases j with _ | _ | j
        · exact q.at rfl
        · exact q.at rfl
        · omega⟩⟩
    have hhash := Hsh.hash_spec 0 (w1.heap.size + 1) _ (some ⟨w1.heap.size, 0, none⟩) 2 2 [P.f2, n] hrw (by omega)
    have hrg := Hsh.hash_range [P.f2, n]
    obtain ⟨hv, hhv⟩ : ∃ v, Hsh.hash [P.f2, n] = v := ⟨_, rfl⟩
    rw [hhv] at hhash hrg hr1
    have hmod := fun W => mod1000s hv W (by omega) (by omega)
    rw [← hr1] at hmod
    have hBN : Below w.heap.size w (w1.alloc (.cells #[.int .i64 P.f2, .int .i64 n] 3)) := hB1.alloc hB1.size _
    clear hrw hhv hr1
    go_wp2_with (first | (go_at_call 41; refine (kI _).mono ?_; rintro e w2 ⟨rfl, rfl⟩) | fail)
    go_at_call 61
    refine hhash.mono ?_
    rintro e w3 ⟨rfl, rfl⟩
    go_wp2_with fail
    go_at_call 60
    refine (hmod _).mono ?_
    rintro e w4 ⟨rfl, rfl⟩
    go_wp2
    go_ret
    exact ⟨rfl, hBN⟩
  have e3 : (W.f0 == 3) = false := by simpa using w3e
  rw [if_neg w3e] at hr1
  by_cases w4e : W.f0 = 4
  · rw [w4e] at qW y0 e1 e2 e3
    have HK1 := Lib.hid w4e
    have hrow := (h.below hB1).r3.row'.1
    obtain ⟨m, hm⟩ : ∃ m, P.f3.length = m := ⟨_, rfl⟩
    rw [hm] at hrow hr1 hl8
    have hx3 := x3
    rw [hm] at hx3
    clear x3
    have HM := Lib.hid hm
    by_cases hp : 0 < m
    · rw [if_pos ⟨w4e, hp⟩] at hr1
      obtain ⟨j, rfl⟩ : ∃ j : Nat, n = (j : Int) := ⟨n.toNat, by omega⟩
      rw [Int.toNat_natCast] at hr1
      obtain ⟨i, hi⟩ : ∃ i, j % m = i := ⟨_, rfl⟩
      rw [hi] at hr1
      have him : i < m := by rw [← hi]; exact Nat.mod_lt _ hp
      obtain ⟨b4, o4, rfl, _, _, hc4⟩ := hrow.cell him
      rw [← hr1] at hc4
      have htm : (j : Int).tmod (m : Int) = (i : Int) := by rw [Int.tmod_eq_emod_of_nonneg (by omega)]; rw [← hi]; omega
      have hm0' : ((m : Int) == 0) = false := by simp; omega
      have hd1 : decide ((m : Int) > 0) = true := by rw [decide_eq_true_eq]; omega
      have hd2 : decide (0 < (m : Int)) = true := hd1
      clear hr1 hi w4e w1e w2e w3e hrow hm
      go_wp2_with (first | (go_at_call 41; refine (kI _).mono ?_; rintro e w2 ⟨rfl, rfl⟩) | fail)
      go_region
      go_wp2
      go_ret
      exact ⟨rfl, gbelow_drewN hB1 1⟩
    · have hr0 : r = 0 := by rw [hr1, if_neg (fun e => hp e.2)]
      subst hr0
      obtain rfl : m = 0 := by omega
      clear hr1 w4e w1e w2e w3e hrow hm
      go_wp2_with (first | (go_at_call 41; refine (kI _).mono ?_; rintro e w2 ⟨rfl, rfl⟩) | fail)
      go_ret
      exact ⟨rfl, hB1⟩
  have e4 : (W.f0 == 4) = false := by simpa using w4e
  rw [if_neg (fun e => w4e e.1)] at hr1
  subst hr1
  clear w4e w1e w2e w3e
  go_wp2_with (first | (go_at_call 41; refine (kI _).mono ?_; rintro e w2 ⟨rfl, rfl⟩) | fail)
  go_ret
  exact ⟨rfl, hB1⟩

set_option maxHeartbeats 4000000 in
set_option maxRecDepth 100000 in
theorem ask_spec (P : TVisit) (W : TWant) (n : Int) (w : World) (a0 : Option Addr) (c0 : Nat) (a3 : Option Addr) (c3 : Nat) (h : VSt w P a0 c0 a3 c3) (hm0 : room (dVersion P.f0) ≤ 1048576) (hm3 : P.f3.length ≤ 1048576) (hW : WfA W.f1) :
    Calls Try.prog 26 #[.agg #[.slice a0 P.f0.length c0, .int .i64 P.f1, .int .i64 P.f2, .slice a3 P.f3.length c3], .agg #[.int .i64 W.f0, .int .i64 W.f1.f0, .int .i64 W.f1.f1, .int .i64 W.f1.f2], .int .i64 n] w (GivenA w (askV P W n)) := by
  obtain ⟨W0, hW0⟩ : ∃ Z, (w.alloc (.cells #[.slice a0 P.f0.length c0, .int .i64 P.f1, .int .i64 P.f2, .slice a3 P.f3.length c3] 27)).alloc (.cells #[.int .i64 W.f0, .int .i64 W.f1.f0, .int .i64 W.f1.f1, .int .i64 W.f1.f2] 31) = Z := ⟨_, rfl⟩
  have qB : Blk 27 w.heap.size [.slice a0 P.f0.length c0, .int .i64 P.f1, .int .i64 P.f2, .slice a3 P.f3.length c3] W0 := by rw [← hW0]; exact (Blk.new _ [_, _, _, _] w).alloc _
  have qW : Blk 31 (w.heap.size + 1) [.int .i64 W.f0, .int .i64 W.f1.f0, .int .i64 W.f1.f1, .int .i64 W.f1.f2] W0 := by
    have := Blk.new 31 [.int .i64 W.f0, .int .i64 W.f1.f0, .int .i64 W.f1.f1, .int .i64 W.f1.f2] (w.alloc (.cells #[.slice a0 P.f0.length c0, .int .i64 P.f1, .int .i64 P.f2, .slice a3 P.f3.length c3] 27))
    rw [gsize_alloc] at this
    rw [← hW0]; exact this
  have hB : Below w.heap.size w W0 := by rw [← hW0]; exact ((Below.refl _ _).alloc (Nat.le_refl _) _).alloc (by rw [gsize_alloc]; omega) _
  have hz : w.heap.size + 2 ≤ W0.heap.size := qW.lt
  have kV := visit_spec P W0 a0 c0 a3 c3 (h.below hB) hm0 hm3
  have kI := fun W' => l1_is n 0 100 W'
  have hask : askV P W n = (if W.f0 = 1 ∧ (visitB P && inR 0 100 n) = true then (followed P.f0 W.f1 (P.f1 + n)).1 else []) := rfl
  have hvis := @visit_at P
  obtain ⟨vb, hvb⟩ : ∃ b, visitB P = b := ⟨_, rfl⟩
  obtain ⟨nb, hnb⟩ : ∃ b, inR 0 100 n = b := ⟨_, rfl⟩
  rw [hvb] at kV hask hvis
  rw [hnb] at kI hask
  obtain ⟨r, hr⟩ : ∃ r, askV P W n = r := ⟨_, rfl⟩
  rw [hr] at hask ⊢
  have x0 : W0.cell? ⟨w.heap.size, 0, none⟩ = some (.slice a0 P.f0.length c0) := qB.at rfl
  have x1 : W0.cell? ⟨w.heap.size, 1, none⟩ = some (.int .i64 P.f1) := qB.at rfl
  have x2 : W0.cell? ⟨w.heap.size, 2, none⟩ = some (.int .i64 P.f2) := qB.at rfl
  have x3 : W0.cell? ⟨w.heap.size, 3, none⟩ = some (.slice a3 P.f3.length c3) := qB.at rfl
  have y0 : W0.cell? ⟨w.heap.size + 1, 0, none⟩ = some (.int .i64 W.f0) := qW.at rfl
  have y1 : W0.cell? ⟨w.heap.size + 1, 1, none⟩ = some (.int .i64 W.f1.f0) := qW.at rfl
  have y2 : W0.cell? ⟨w.heap.size + 1, 2, none⟩ = some (.int .i64 W.f1.f1) := qW.at rfl
  have y3 : W0.cell? ⟨w.heap.size + 1, 3, none⟩ = some (.int .i64 W.f1.f2) := qW.at rfl
  have HW := Lib.hid hW0
  have HL := Lib.hid hask
  have HNB := Lib.hid hnb
  have HVIS := Lib.hid hvis
  clear hW0 hvb hnb hr hask hvis
  by_cases w1e : W.f0 = 1
  · rw [w1e] at qW y0
    have HK1 := Lib.hid w1e
    clear w1e
    go_enter Try.func26, Try.ntmps26
    go_upto_region 1 with fail
    try rw [HW.out]
    go_wp2_with fail
    go_at_call 12
    refine kV.mono ?_
    rintro e w1 ⟨rfl, hb1⟩
    have hB1 := hB.trans (hb1.mono hB.size)
    have qB := qB.below hb1
    have qW := qW.below hb1
    have hz1 := Nat.le_trans hz hb1.size
    clear x0 x1 x2 x3 y0 y1 y2 y3 kV
    have x0 : w1.cell? ⟨w.heap.size, 0, none⟩ = some (.slice a0 P.f0.length c0) := qB.at rfl
    have x1 : w1.cell? ⟨w.heap.size, 1, none⟩ = some (.int .i64 P.f1) := qB.at rfl
    have x2 : w1.cell? ⟨w.heap.size, 2, none⟩ = some (.int .i64 P.f2) := qB.at rfl
    have x3 : w1.cell? ⟨w.heap.size, 3, none⟩ = some (.slice a3 P.f3.length c3) := qB.at rfl
    have y0 : w1.cell? ⟨w.heap.size + 1, 0, none⟩ = some (.int .i64 1) := qW.at rfl
    have y1 : w1.cell? ⟨w.heap.size + 1, 1, none⟩ = some (.int .i64 W.f1.f0) := qW.at rfl
    have y2 : w1.cell? ⟨w.heap.size + 1, 2, none⟩ = some (.int .i64 W.f1.f1) := qW.at rfl
    have y3 : w1.cell? ⟨w.heap.size + 1, 3, none⟩ = some (.int .i64 W.f1.f2) := qW.at rfl
    cases vb
    · have hr0 : r = [] := by rw [HL.out]; simp
      subst hr0
      go_wp2
      go_ret
      exact given_none w1 hB1
    have hrn : nb = false → r = [] := fun e => by rw [HL.out, e]; simp
    cases nb
    · have hr0 := hrn rfl
      subst hr0
      clear hrn
      go_wp2_with fail
      go_at_call 41
      refine (kI _).mono ?_
      rintro e w2 ⟨rfl, rfl⟩
      go_wp2
      go_ret
      exact given_none w1 hB1
    clear hrn
    obtain ⟨hsb, htk, hsd, hl8, hheld⟩ := HVIS.out rfl
    have hn100 := inR_at HNB.out
    have HASK : r = (followed P.f0 W.f1 (P.f1 + n)).1 := by rw [HL.out, if_pos ⟨HK1.out, rfl⟩]
    clear hsb hheld
    go_upto_region 3 with (go_at_call 41; refine (kI _).mono ?_; rintro e w2 ⟨rfl, rfl⟩)
    have hf := follow_spec 0 w1.heap.size w1 a0 c0 P.f0 (h.below hB1).r0 (Nat.le_refl _) hm0 W.f1 hW (P.f1 + n)
    have hlen : (followed P.f0 W.f1 (P.f1 + n)).2.f1.length ≤ 1048576 := by obtain ⟨B, e⟩ := fol_ans (l := P.f0) (t := P.f1 + n) (k := 4) (Q := [W.f1]) ⟨W.f1, rfl⟩; unfold followed; rw [e]; exact Nat.le_trans (room_answer P.f0 B (P.f1 + n) _ (Nat.le_refl _)) hm0
    obtain ⟨RR, hRR⟩ : ∃ RR, followed P.f0 W.f1 (P.f1 + n) = RR := ⟨_, rfl⟩
    rw [hRR] at hf hlen HASK
    have hw1 : wrap64 (P.f1 + n) = P.f1 + n := IntWalk.wrap64_in _ ⟨by omega, by omega⟩
    have hw2 : IntKind.i64.wrap (P.f1 + n) = P.f1 + n := by rw [IntKind.wrap_i64]; omega
    replace HASK := Lib.hid HASK
    obtain ⟨m0, hm00⟩ : ∃ m, P.f0.length = m := ⟨_, rfl⟩
    rw [hm00] at hf qB x0
    try rw [hm00]
    clear hRR hm00
    go_wp2_with fail
    go_at_call 59
    refine hf.mono ?_
    rintro e w2 ⟨k1, m1, S1, k2, m2, S2, rfl, o1, o2, u1, u2, d12, hb2⟩
    have qB := qB.below hb2
    have qW := qW.below hb2
    have hB2 := hB1.trans (hb2.mono hB1.size)
    have hz2 := hb2.size
    clear hf x0 x1 x2 x3 y0 y1 y2 y3
    obtain ⟨q, hq⟩ : ∃ q, RR.2 = q := ⟨_, rfl⟩
    rw [hq] at o1 hlen
    try rw [hq] at HASK
    try rw [hq]
    obtain ⟨qs, hqs⟩ : ∃ q, RR.1 = q := ⟨_, rfl⟩
    try rw [hqs] at o2
    try rw [hqs] at HASK
    try rw [hqs]
    clear hq hqs
    obtain ⟨W3, hW3⟩ : ∃ Z, w2.alloc (.cells #[.int .i64 0, .slice none 0 0, .int .i64 0, .int .i64 0, .int .i64 0] 39) = Z := ⟨_, rfl⟩
    obtain ⟨b3, hb3⟩ : ∃ b, w2.heap.size = b := ⟨_, rfl⟩
    have qN : Blk 39 b3 [.int .i64 0, .slice none 0 0, .int .i64 0, .int .i64 0, .int .i64 0] W3 := by rw [← hW3, ← hb3]; exact Blk.new _ [_, _, _, _, _] w2
    have hA : Below w2.heap.size w2 W3 := by rw [← hW3]; exact (Below.refl _ _).alloc (Nat.le_refl _) _
    have hB3 := hB2.trans (hA.mono hB2.size)
    have o1 := Owns.below o1 hA
    have o2 := Owns.below o2 hA
    have hb3w : w.heap.size + 2 ≤ b3 := by omega
    have hb3l := qN.lt
    have z0 : W3.cell? ⟨b3, 0, none⟩ = some (.int .i64 0) := qN.at rfl
    have f0 := qN.free 0
    have z1 : W3.cell? ⟨b3, 1, none⟩ = some (.slice none 0 0) := qN.at rfl
    have f1 := qN.free 1
    have z2 : W3.cell? ⟨b3, 2, none⟩ = some (.int .i64 0) := qN.at rfl
    have f2 := qN.free 2
    have z3 : W3.cell? ⟨b3, 3, none⟩ = some (.int .i64 0) := qN.at rfl
    have f3 := qN.free 3
    have z4 : W3.cell? ⟨b3, 4, none⟩ = some (.int .i64 0) := qN.at rfl
    have f4 := qN.free 4
    obtain ⟨VF, hVF, qF, hsF, hkF, hF⟩ := put5 (w := w) (B := w.heap.size) (b := b3) (w1 := W3) (v0 := .int .i64 q.f0) (v1 := .slice k1 q.f1.length m1) (v2 := .int .i64 q.f2.f0) (v3 := .int .i64 q.f2.f1) (v4 := .int .i64 q.f2.f2) qN (by omega) hB3
    have p1 := Owns.keep o1 (w' := VF) (fun t _ hS => hkF t (by have := u1 t hS; omega))
    have p2 := Owns.keep o2 (w' := VF) (fun t _ hS => hkF t (by have := u2 t hS; omega))
    have hl1 : ∀ t, S1 t → 0 ≤ t ∧ t < VF.heap.size := fun t hS => ⟨Nat.zero_le _, by have := u1 t hS; have := hA.size; omega⟩
    have hl2 : ∀ t, S2 t → w.heap.size ≤ t ∧ t < VF.heap.size := fun t hS => ⟨by have := u2 t hS; have := hB1.size; omega, by have := u2 t hS; have := hA.size; omega⟩
    clear hA o1 o2
    have hra : r = qs := HASK.out
    subst hra
    go_upto_region 4 with fail
    try rw [hVF]
    clear hVF z0 f0 z1 f1 z2 f2 z3 f3 z4 f4
    go_wp2
    go_ret
    exact ⟨k2, m2, S2, rfl, p2, hl2, hF⟩
  · have e1 : (W.f0 == 1) = false := by simpa using w1e
    have e2 : (W.f0 != 1) = true := by simpa using w1e
    have hr0 : r = [] := by rw [HL.out, if_neg (fun e => w1e e.1)]
    subst hr0
    clear w1e kV kI
    go_enter Try.func26, Try.ntmps26
    go_upto_region 1 with fail
    try rw [HW.out]
    go_wp2
    go_ret
    exact given_none W0 hB
end Go.Proofs.Ytagnhfalmefbhaa.Visits
