/-
  Visits, the program: which are valid, the value of a resource, what comes from outside (a function for each kind of step), which addresses are asked.
  Conditions: what is given lies in memory.
-/
import Derived.Test.YtagnhfalmefbhaaVisitC
import Derived.Test.YtagnhfalmefbhaaFollows
import Derived.Test.YtagnhfalmefbhaaSound
namespace Go.Proofs.Ytagnhfalmefbhaa.Visits
set_option linter.unusedVariables false
open Go Go.RowKit Go.Proofs.Ytagnhfalmefbhaa.Mem Go.Proofs.Ytagnhfalmefbhaa.Gen Go.Proofs.Ytagnhfalmefbhaa.Res Go.Proofs.Ytagnhfalmefbhaa.Sites

theorem in_is (x lo hi : Int) (w : World) :
    Calls Try.prog 37 #[.int .i64 x, .int .i64 lo, .int .i64 hi] w fun e w' => e = .returned (.bool (inR lo hi x)) ∧ w = w' := by
  by_cases h : lo ≤ x ∧ x ≤ hi
  · rw [inR_yes h.1 h.2]; exact Range.in_yes x lo hi w h.1 h.2
  · rw [inR_no (by omega)]; exact Range.in_no x lo hi w (by omega)

set_option maxRecDepth 100000 in
theorem all_impl (lo hi : Nat) (w : World) (a : Option Addr) (c : Nat) (zs : List Int) (h : Lies lo hi w (ints zs) (.slice a zs.length c)) (hm : zs.length ≤ 1048576) :
    Calls Try.prog 39 #[.slice a zs.length c, .int .i64 0, .int .i64 999] w fun e w' => e = .returned (.bool (heldB zs)) ∧ w = w' := by
  obtain ⟨n, hn⟩ : ∃ n, zs.length = n := ⟨_, rfl⟩
  obtain ⟨r, hr⟩ : ∃ r, heldB zs = r := ⟨_, rfl⟩
  have hrow := h.row'.1
  rw [hr]
  rw [hn] at hrow hm ⊢
  have HN := Lib.hid hn
  have HR := Lib.hid hr
  clear hn hr h
  go_enter Try.func39, Try.ntmps39
  go_wp2
  go_loopw [8, 11] (fun v i wr => ∃ j : Nat, j ≤ n ∧ i = .int .i64 j ∧ AllIn zs j ∧ w = wr) (fun _ i _ => n - (Go.RowKit.intOf i).toNat)
  case atStart => exact ⟨0, Nat.zero_le _, rfl, AllIn.zero _, rfl⟩
  case round =>
    obtain ⟨j, hj, rfl, hal, rfl⟩ := hrel
    by_cases hlt : j < n
    · obtain ⟨b, off, rfl, _, _, hc⟩ := hrow.cell hlt
      have HNO := Lib.hid (fun h => heldB_no (l := zs) (j := j) (by rw [HN.out]; exact hlt) h)
      have HYE := Lib.hid (fun h => hal.next h)
      obtain ⟨z, hz⟩ : ∃ z, zs.getD j 0 = z := ⟨_, rfl⟩
      rw [hz] at hc HNO HYE
      have hok := fun W => in_is z 0 999 W
      obtain ⟨r1, hr1⟩ : ∃ r, inR 0 999 z = r := ⟨_, rfl⟩
      rw [hr1] at hok HNO HYE
      clear hr1 hz hal
      go_wp2_with fail
      go_at_call 37
      refine (hok _).mono ?_
      rintro e w1 ⟨rfl, rfl⟩
      cases r1 with
      | false =>
        have e1 := HNO.out rfl
        rw [HR.out] at e1
        have HE1 := Lib.hid e1
        clear e1
        go_wp2
        go_ret
        have e1 := HE1.out
        exact ⟨by rw [e1]; rfl, rfl⟩
      | true =>
        have hal2 := HYE.out rfl
        go_wp2
        go_roundw
        case rel => exact ⟨j + 1, by omega, by go_num, hal2, trivial⟩
        case measure => simp [Go.RowKit.intOf]; omega
    · have hd : decide ((j : Int) < (n : Int)) = false := by simp; omega
      have e1 := heldB_end hal (by rw [HN.out]; omega)
      rw [HR.out] at e1
      clear hrow hal
      go_wp2
      go_ret
      exact ⟨by rw [e1]; rfl, rfl⟩

set_option maxHeartbeats 1600000 in
set_option maxRecDepth 100000 in
theorem visit_impl (P : TVisit) (w : World) (a0 : Option Addr) (c0 : Nat) (a3 : Option Addr) (c3 : Nat) (h : VSt w P a0 c0 a3 c3) (hm0 : room (dVersion P.f0) ≤ 1048576) (hm3 : P.f3.length ≤ 1048576) :
    Calls Try.prog 11 #[.agg #[.slice a0 P.f0.length c0, .int .i64 P.f1, .int .i64 P.f2, .slice a3 P.f3.length c3]] w fun e w' => e = .returned (.bool (visitB P)) ∧ Below w.heap.size w w' := by
  obtain ⟨W, hWW⟩ : ∃ Z, w.alloc (.cells #[.slice a0 P.f0.length c0, .int .i64 P.f1, .int .i64 P.f2, .slice a3 P.f3.length c3] 27) = Z := ⟨_, rfl⟩
  have hBW : Below w.heap.size w W := by rw [← hWW]; exact (Below.refl _ _).alloc (Nat.le_refl _) _
  have qB : Blk 27 w.heap.size [.slice a0 P.f0.length c0, .int .i64 P.f1, .int .i64 P.f2, .slice a3 P.f3.length c3] W := by rw [← hWW]; exact Blk.new _ [_, _, _, _] w
  have hW := h.below hBW
  have k0 := site_impl 0 W.heap.size W a0 c0 P.f0 hW.r0 (Nat.le_refl _) hm0
  have k1 := fun W' => in_is P.f1 0 1000 W'
  have k2 := fun W' => in_is P.f2 0 9999 W'
  have k3 := fun (W' : World) (hb : Below W.heap.size W W') => all_impl 0 W'.heap.size W' a3 c3 P.f3 (hW.below hb).r3 hm3
  have hst : visitB P = (siteB P.f0 && (inR 0 1000 P.f1 && (inR 0 9999 P.f2 && (decide ((P.f3.length : Int) ≤ 8) && heldB P.f3)))) := rfl
  obtain ⟨b0, h0⟩ : ∃ r, siteB P.f0 = r := ⟨_, rfl⟩
  obtain ⟨b1, h1⟩ : ∃ r, inR 0 1000 P.f1 = r := ⟨_, rfl⟩
  obtain ⟨b2, h2⟩ : ∃ r, inR 0 9999 P.f2 = r := ⟨_, rfl⟩
  obtain ⟨b4, h4⟩ : ∃ r, heldB P.f3 = r := ⟨_, rfl⟩
  obtain ⟨n, hn⟩ : ∃ n, P.f3.length = n := ⟨_, rfl⟩
  obtain ⟨m, hm⟩ : ∃ n, P.f0.length = n := ⟨_, rfl⟩
  obtain ⟨b3, h3⟩ : ∃ r, decide ((n : Int) ≤ 8) = r := ⟨_, rfl⟩
  rw [h0, hm] at k0
  rw [h1] at k1
  rw [h2] at k2
  simp only [h4, hn] at k3
  rw [h0, h1, h2, hn, h3, h4] at hst
  replace hst : visitB P = (b1 && (b2 && (b0 && (b3 && b4)))) := by rw [hst]; cases b0 <;> cases b1 <;> cases b2 <;> rfl
  rw [hst]
  rw [hn, hm] at qB hWW ⊢
  have x0 : W.cell? ⟨w.heap.size, 0, none⟩ = some (.slice a0 m c0) := qB.at rfl
  have x1 : W.cell? ⟨w.heap.size, 1, none⟩ = some (.int .i64 P.f1) := qB.at rfl
  have x2 : W.cell? ⟨w.heap.size, 2, none⟩ = some (.int .i64 P.f2) := qB.at rfl
  have x3 : W.cell? ⟨w.heap.size, 3, none⟩ = some (.slice a3 n c3) := qB.at rfl
  have HW := Lib.hid hWW
  clear h0 h1 h2 h4 hst h hm0 hm3 hWW hn hm hW
  go_enter Try.func11, Try.ntmps11
  go_upto_region 1 with fail
  try rw [HW.out]
  go_wp2_with fail
  go_at_call 37
  refine (k1 _).mono ?_
  rintro e w2 ⟨rfl, rfl⟩
  cases b1
  · go_wp2
    go_ret
    exact ⟨rfl, hBW⟩
  go_wp2_with fail
  go_at_call 37
  refine (k2 _).mono ?_
  rintro e w2 ⟨rfl, rfl⟩
  cases b2
  · go_wp2
    go_ret
    exact ⟨rfl, hBW⟩
  go_wp2_with fail
  go_at_call 38
  refine k0.mono ?_
  rintro e w1 ⟨rfl, hb1⟩
  have hB1 := hBW.trans (hb1.mono hBW.size)
  have qB := qB.below hb1
  clear x0 x1 x2 x3
  cases b0
  · go_wp2
    go_ret
    exact ⟨rfl, hB1⟩
  have x3 : w1.cell? ⟨w.heap.size, 3, none⟩ = some (.slice a3 n c3) := qB.at rfl
  have k3 := k3 _ hb1
  cases b3
  · go_wp2
    go_ret
    exact ⟨rfl, hB1⟩
  go_wp2_with fail
  go_at_call 39
  refine k3.mono ?_
  rintro e w2 ⟨rfl, rfl⟩
  go_wp2
  go_ret
  exact ⟨rfl, hB1⟩

set_option maxRecDepth 100000 in
theorem modi (a m : Int) (w : World) (ha : 0 ≤ a) (h1 : 1 ≤ m) (h2 : m ≤ 1000000000000) :
    Calls Try.prog 48 #[.int .i64 a, .int .i64 m] w fun e w' => e = .returned (.int .i64 (a % m)) ∧ w = w' := by
  have h3 := Int.emod_nonneg a (show m ≠ 0 by omega)
  obtain ⟨r, hr⟩ : ∃ r, a % m = r := ⟨_, rfl⟩
  have ht : a.tmod m = r := by rw [Int.tmod_eq_emod_of_nonneg ha]; exact hr
  rw [hr] at h3 ⊢
  have hd : decide (r < 0) = false := by simpa using h3
  have hm : (m == 0) = false := by simp; omega
  have hI := fun W => Range.in_yes m 1 1000000000000 W h1 h2
  clear hr
  go_enter Try.func48, Try.ntmps48
  go_wp2_with (go_at_call 37; refine (hI _).mono ?_; rintro e w1 ⟨rfl, rfl⟩)
  go_ret
  exact ⟨rfl, rfl⟩

set_option maxRecDepth 100000 in
theorem as_shown (v : Value) (w : World) : (Instr.typeAssert (.iface 79 v) 82 79 true).run Try.prog w = .ok (.tuple #[v, .bool true]) w := by kernel_rfl
set_option maxRecDepth 100000 in
theorem not_move (v : Value) (w : World) : (Instr.typeAssert (.iface 114 v) 82 79 true).run Try.prog w = .ok (.tuple #[.agg #[.int .i64 0, .slice none 0 0, .int .i64 0, .int .i64 0, .int .i64 0], .bool false]) w := by kernel_rfl
set_option maxRecDepth 100000 in
theorem not_absence (v : Value) (w : World) : (Instr.typeAssert (.iface 115 v) 82 79 true).run Try.prog w = .ok (.tuple #[.agg #[.int .i64 0, .slice none 0 0, .int .i64 0, .int .i64 0, .int .i64 0], .bool false]) w := by kernel_rfl
set_option maxRecDepth 100000 in
theorem not_stray (v : Value) (w : World) : (Instr.typeAssert (.iface 116 v) 82 79 true).run Try.prog w = .ok (.tuple #[.agg #[.int .i64 0, .slice none 0 0, .int .i64 0, .int .i64 0, .int .i64 0], .bool false]) w := by kernel_rfl

set_option maxHeartbeats 1600000 in
set_option maxRecDepth 100000 in
theorem value_impl (lo hi : Nat) (R : TResource) (w : World) (a : Option Addr) (c : Nat) (h : Lies lo hi w (ints R.f1) (.slice a R.f1.length c)) (hh : hi ≤ w.heap.size) (hm : R.f1.length ≤ 1048576) :
    Calls Try.prog 15 #[.agg #[.int .i64 R.f0, .slice a R.f1.length c, .int .i64 R.f2.f0, .int .i64 R.f2.f1, .int .i64 R.f2.f2]] w fun e w' => e = .returned (.int .i64 (valueR R)) ∧ Below w.heap.size w w' := by
  obtain ⟨W, hWW⟩ : ∃ Z, w.alloc (.cells #[.int .i64 R.f0, .slice a R.f1.length c, .int .i64 R.f2.f0, .int .i64 R.f2.f1, .int .i64 R.f2.f2] 39) = Z := ⟨_, rfl⟩
  have hBW : Below w.heap.size w W := by rw [← hWW]; exact (Below.refl _ _).alloc (Nat.le_refl _) _
  have qB : Blk 39 w.heap.size [.int .i64 R.f0, .slice a R.f1.length c, .int .i64 R.f2.f0, .int .i64 R.f2.f1, .int .i64 R.f2.f2] W := by rw [← hWW]; exact Blk.new _ [_, _, _, _, _] w
  have hrow := h.row'.1
  have hbody := @hasR_body R
  have hval : valueR R = if (okRes R && decide (R.f0 ≤ 2)) = true then least 999 (R.f1.sum % 1000 + 1) else 0 := rfl
  have hh2 : hasR R = (okRes R && decide (R.f0 ≤ 2)) := rfl
  have hres : okRes R = okR R.f0 R.f2.f0 R.f2.f1 R.f2.f2 R.f1.length R.f1 := rfl
  rw [hh2] at hbody
  obtain ⟨n, hn⟩ : ∃ n, R.f1.length = n := ⟨_, rfl⟩
  obtain ⟨k, hk⟩ : ∃ k, R.f0 = k := ⟨_, rfl⟩
  rw [hk] at hval hbody
  rw [hk, hn] at hres
  rw [hn] at qB hrow hWW ⊢
  rw [hk] at qB hWW ⊢
  obtain ⟨v, hv⟩ : ∃ v, valueR R = v := ⟨_, rfl⟩
  rw [hv] at hval ⊢
  have HN := Lib.hid hn
  have HW := Lib.hid hWW
  have hrow := hrow.under (B := w.heap.size) hBW hh
  have x0 : W.cell? ⟨w.heap.size, 0, none⟩ = some (.int .i64 k) := qB.at rfl
  have x1 : W.cell? ⟨w.heap.size, 1, none⟩ = some (.slice a n c) := qB.at rfl
  have x2 : W.cell? ⟨w.heap.size, 2, none⟩ = some (.int .i64 R.f2.f0) := qB.at rfl
  have x3 : W.cell? ⟨w.heap.size, 3, none⟩ = some (.int .i64 R.f2.f1) := qB.at rfl
  have x4 : W.cell? ⟨w.heap.size, 4, none⟩ = some (.int .i64 R.f2.f2) := qB.at rfl
  clear hWW hn hk hv h hm hh2
  by_cases h12 : k = 1 ∨ k = 2
  · have hk2 : k ≤ 2 := by omega
    have hok : okRes R = (decide (n ≤ 6) && (allB R.f1 && zero3 R.f2.f0 R.f2.f1 R.f2.f2)) := by rw [hres]; unfold okR; rw [if_pos h12]
    clear hres
    rw [decide_eq_true hk2, Bool.and_true] at hval hbody
    obtain ⟨ok, hok2⟩ : ∃ b, okRes R = b := ⟨_, rfl⟩
    rw [hok2] at hval hbody hok
    have HOK := Lib.hid hok
    have HBO := Lib.hid hbody
    have HVL := Lib.hid hval
    have hans := fun W => answer_content k R.f2.f0 R.f2.f1 R.f2.f2 W a n c h12
    have hsd := fun (W' : World) (hr : Row .i64 lo hi W' a n R.f1) => sound_content lo hi k R.f2.f0 R.f2.f1 R.f2.f2 W' a n c R.f1 hr
    rw [← hok] at hsd
    clear hok hbody hval hok2 h12 hk2
    go_enter Try.func15, Try.ntmps15
    go_upto_region 1 with fail
    try rw [HW.out]
    go_wp2_with fail
    go_at_call 45
    refine (hans _).mono ?_
    rintro e w1 ⟨rfl, hb1⟩
    have hB1 := hBW.trans (hb1.mono hBW.size)
    have qB := qB.below hb1
    clear x0 x1 x2 x3 x4
    have hta := as_shown
    have hrow := hrow.under hb1 (Nat.le_trans hh hBW.size)
    obtain ⟨W3, hW3⟩ : ∃ Z, w1.alloc (.cells #[.int .i64 0, .slice none 0 0, .int .i64 0, .int .i64 0, .int .i64 0] 79) = Z := ⟨_, rfl⟩
    obtain ⟨b3, hb3⟩ : ∃ b, w1.heap.size = b := ⟨_, rfl⟩
    have qN : Blk 79 b3 [.int .i64 0, .slice none 0 0, .int .i64 0, .int .i64 0, .int .i64 0] W3 := by rw [← hW3, ← hb3]; exact Blk.new _ [_, _, _, _, _] w1
    have hA : Below w1.heap.size w1 W3 := by rw [← hW3]; exact (Below.refl _ _).alloc (Nat.le_refl _) _
    have hB3 := hB1.trans (hA.mono hB1.size)
    have hb3w : w.heap.size + 1 ≤ b3 := by have := qB.lt; omega
    have hb3l := qN.lt
    have z0 : W3.cell? ⟨b3, 0, none⟩ = some (.int .i64 0) := qN.at rfl
    have f0 := qN.free 0
    have z1 : W3.cell? ⟨b3, 1, none⟩ = some (.slice none 0 0) := qN.at rfl
    have f1 := qN.free 1
    have z2 : W3.cell? ⟨b3, 2, none⟩ = some (.int .i64 0) := qN.at rfl
    have f2 := qN.free 2
    have z3 : W3.cell? ⟨b3, 3, none⟩ = some (.int .i64 0) := qN.at rfl
    have f3 := qN.free 3
    have z4 : W3.cell? ⟨b3, 4, none⟩ = some (.int .i64 0) := qN.at rfl
    have f4 := qN.free 4
    obtain ⟨VF, hVF, qF, hsF, hkF, hF⟩ := put5 (w := w) (B := w.heap.size) (b := b3) (w1 := W3) (v0 := .int .i64 k) (v1 := .slice a n c) (v2 := .int .i64 R.f2.f0) (v3 := .int .i64 R.f2.f1) (v4 := .int .i64 R.f2.f2) qN (by omega) hB3
    have hrow := hrow.under hA (Nat.le_trans hh hB1.size)
    have hrow : Row .i64 lo hi VF a n R.f1 := Row.keep hrow (fun t _ _ ht => hkF t (by omega))
    go_upto_region 2 with fail
    try rw [hVF]
    clear hVF z0 f0 z1 f1 z2 f2 z3 f3 z4 f4 hA qN
    have g0 : VF.cell? ⟨b3, 0, none⟩ = some (.int .i64 k) := qF.at rfl
    have g1 : VF.cell? ⟨b3, 1, none⟩ = some (.slice a n c) := qF.at rfl
    have g2 : VF.cell? ⟨b3, 2, none⟩ = some (.int .i64 R.f2.f0) := qF.at rfl
    have g3 : VF.cell? ⟨b3, 3, none⟩ = some (.int .i64 R.f2.f1) := qF.at rfl
    have g4 : VF.cell? ⟨b3, 4, none⟩ = some (.int .i64 R.f2.f2) := qF.at rfl
    have hsd := hsd _ hrow
    go_wp2_with fail
    go_at_call 46
    refine hsd.mono ?_
    rintro e w5 ⟨rfl, hb5⟩
    have hB5 := hF.trans (hb5.mono hF.size)
    have qF := qF.below hb5
    have hrow := hrow.under hb5 (Nat.le_trans hh hF.size)
    clear g0 g1 g2 g3 g4
    have g1 : w5.cell? ⟨b3, 1, none⟩ = some (.slice a n c) := qF.at rfl
    cases ok with
    | false =>
      have hval : v = 0 := by rw [HVL.out]; simp
      subst hval
      go_wp2
      go_ret
      exact ⟨rfl, hB5⟩
    | true =>
      have hval : v = least 999 (R.f1.sum % 1000 + 1) := by rw [HVL.out, if_pos rfl]
      obtain ⟨hb6, hbd⟩ := HBO.out rfl
      have hsum := sumUp_in hbd
      have HB := Lib.hid hbd
      have HS := Lib.hid hsum
      have hn6 : n ≤ 6 := by rw [← HN.out]; exact hb6
      replace HVL := Lib.hid hval
      clear hval hbd hsum hb6
      go_wp2
      go_loopw [5, 7, 24] (fun s _ i wr => ∃ j : Nat, j ≤ n ∧ i = .int .i64 j ∧ s = .int .i64 (sumUp R.f1 j) ∧ w5 = wr) (fun _ _ i _ => n - (Go.RowKit.intOf i).toNat)
      case atStart => exact ⟨0, Nat.zero_le _, rfl, rfl, rfl⟩
      case round =>
        obtain ⟨j, hj, rfl, rfl, rfl⟩ := hrel
        have hsj := HS.out j (by rw [HN.out]; exact hj)
        obtain ⟨s, hs⟩ : ∃ s, sumUp R.f1 j = s := ⟨_, rfl⟩
        rw [hs] at hsj ⊢
        by_cases hlt : j < n
        · obtain ⟨b, off, rfl, _, _, hc⟩ := hrow.cell hlt
          have hnx := sumUp_next (l := R.f1) (j := j) (by rw [HN.out]; exact hlt)
          have hbz := HB.out j (by rw [HN.out]; exact hlt)
          obtain ⟨z, hz⟩ : ∃ z, R.f1.getD j 0 = z := ⟨_, rfl⟩
          rw [hz, hs] at hnx
          rw [hz] at hc hbz
          have HNX := Lib.hid hnx
          have hw1 : wrap64 (s + z) = s + z := IntWalk.wrap64_in _ ⟨by omega, by omega⟩
          have hw2 : IntKind.i64.wrap (s + z) = s + z := by rw [IntKind.wrap_i64]; omega
          clear hz hs hnx
          go_wp2
          go_roundw
          case rel => exact ⟨j + 1, by omega, by go_num, by rw [HNX.out], trivial⟩
          case measure => simp [Go.RowKit.intOf]; omega
        · have hd : decide ((j : Int) < (n : Int)) = false := by simp; omega
          have hmod := fun W => modi s 1000 W (by omega) (by omega) (by omega)
          have hr0 := Int.emod_nonneg s (show (1000 : Int) ≠ 0 by omega)
          have hr1 := Int.emod_lt_of_pos s (show (0 : Int) < 1000 by omega)
          have hvv : v = least 999 (s % 1000 + 1) := by rw [HVL.out, ← sumUp_all (l := R.f1) (j := j) (by rw [HN.out]; omega), hs]
          obtain ⟨r, hr⟩ : ∃ r, s % 1000 = r := ⟨_, rfl⟩
          rw [hr] at hr0 hr1 hvv
          simp only [hr] at hmod
          have hmin := fun W => MinMax.min_impl (r + 1) 999 v W (by rw [hvv]; unfold least; split <;> omega)
          have hw1 : wrap64 (r + 1) = r + 1 := IntWalk.wrap64_in _ ⟨by omega, by omega⟩
          have hw2 : IntKind.i64.wrap (r + 1) = r + 1 := by rw [IntKind.wrap_i64]; omega
          clear hs hr hvv
          go_wp2_with fail
          go_at_call 48
          refine (hmod _).mono ?_
          rintro e w2 ⟨rfl, rfl⟩
          go_wp2_with fail
          go_at_call 47
          refine (hmin _).mono ?_
          rintro e w2 ⟨rfl, hb2⟩
          go_wp2
          go_ret
          exact ⟨rfl, hB5.trans (hb2.mono hB5.size)⟩
  · have hv0 : v = 0 := by
      rw [hval]
      by_cases h2 : k ≤ 2
      · have : okRes R = false := by rw [hres]; unfold okR; rw [if_neg h12, if_neg (by omega), if_neg (by omega)]
        rw [this]; simp
      · rw [decide_eq_false h2]; simp
    subst hv0
    clear hval hbody hres hrow
    by_cases h3 : k = 3
    · subst h3
      clear h12
      have hans := fun W => answer_move R.f2.f0 R.f2.f1 R.f2.f2 W a n c
      go_enter Try.func15, Try.ntmps15
      go_upto_region 1 with fail
      try rw [HW.out]
      go_wp2_with fail
      go_at_call 45
      refine (hans _).mono ?_
      rintro e w1 ⟨rfl, hb1⟩
      have hB1 := hBW.trans (hb1.mono hBW.size)
      have qB := qB.below hb1
      clear x0 x1 x2 x3 x4
      have hta := not_move
      obtain ⟨W3, hW3⟩ : ∃ Z, w1.alloc (.cells #[.int .i64 0, .slice none 0 0, .int .i64 0, .int .i64 0, .int .i64 0] 79) = Z := ⟨_, rfl⟩
      obtain ⟨b3, hb3⟩ : ∃ b, w1.heap.size = b := ⟨_, rfl⟩
      have qN : Blk 79 b3 [.int .i64 0, .slice none 0 0, .int .i64 0, .int .i64 0, .int .i64 0] W3 := by rw [← hW3, ← hb3]; exact Blk.new _ [_, _, _, _, _] w1
      have hA : Below w1.heap.size w1 W3 := by rw [← hW3]; exact (Below.refl _ _).alloc (Nat.le_refl _) _
      have hB3 := hB1.trans (hA.mono hB1.size)
      have hb3w : w.heap.size + 1 ≤ b3 := by have := qB.lt; omega
      have hb3l := qN.lt
      have z0 : W3.cell? ⟨b3, 0, none⟩ = some (.int .i64 0) := qN.at rfl
      have f0 := qN.free 0
      have z1 : W3.cell? ⟨b3, 1, none⟩ = some (.slice none 0 0) := qN.at rfl
      have f1 := qN.free 1
      have z2 : W3.cell? ⟨b3, 2, none⟩ = some (.int .i64 0) := qN.at rfl
      have f2 := qN.free 2
      have z3 : W3.cell? ⟨b3, 3, none⟩ = some (.int .i64 0) := qN.at rfl
      have f3 := qN.free 3
      have z4 : W3.cell? ⟨b3, 4, none⟩ = some (.int .i64 0) := qN.at rfl
      have f4 := qN.free 4
      obtain ⟨VF, hVF, qF, hsF, hkF, hF⟩ := put5 (w := w) (B := w.heap.size) (b := b3) (w1 := W3) (v0 := .int .i64 0) (v1 := .slice none 0 0) (v2 := .int .i64 0) (v3 := .int .i64 0) (v4 := .int .i64 0) qN (by omega) hB3
      go_upto_region 2 with fail
      try rw [hVF]
      clear hVF z0 f0 z1 f1 z2 f2 z3 f3 z4 f4 hA qN
      go_wp2
      go_ret
      exact ⟨rfl, hF⟩
    · by_cases h4 : k = 4
      · subst h4
        clear h12 h3
        have hans := fun W => answer_absence R.f2.f0 R.f2.f1 R.f2.f2 W a n c
        go_enter Try.func15, Try.ntmps15
        go_upto_region 1 with fail
        try rw [HW.out]
        go_wp2_with fail
        go_at_call 45
        refine (hans _).mono ?_
        rintro e w1 ⟨rfl, hb1⟩
        have hB1 := hBW.trans (hb1.mono hBW.size)
        have qB := qB.below hb1
        clear x0 x1 x2 x3 x4
        have hta := not_absence
        obtain ⟨W3, hW3⟩ : ∃ Z, w1.alloc (.cells #[.int .i64 0, .slice none 0 0, .int .i64 0, .int .i64 0, .int .i64 0] 79) = Z := ⟨_, rfl⟩
        obtain ⟨b3, hb3⟩ : ∃ b, w1.heap.size = b := ⟨_, rfl⟩
        have qN : Blk 79 b3 [.int .i64 0, .slice none 0 0, .int .i64 0, .int .i64 0, .int .i64 0] W3 := by rw [← hW3, ← hb3]; exact Blk.new _ [_, _, _, _, _] w1
        have hA : Below w1.heap.size w1 W3 := by rw [← hW3]; exact (Below.refl _ _).alloc (Nat.le_refl _) _
        have hB3 := hB1.trans (hA.mono hB1.size)
        have hb3w : w.heap.size + 1 ≤ b3 := by have := qB.lt; omega
        have hb3l := qN.lt
        have z0 : W3.cell? ⟨b3, 0, none⟩ = some (.int .i64 0) := qN.at rfl
        have f0 := qN.free 0
        have z1 : W3.cell? ⟨b3, 1, none⟩ = some (.slice none 0 0) := qN.at rfl
        have f1 := qN.free 1
        have z2 : W3.cell? ⟨b3, 2, none⟩ = some (.int .i64 0) := qN.at rfl
        have f2 := qN.free 2
        have z3 : W3.cell? ⟨b3, 3, none⟩ = some (.int .i64 0) := qN.at rfl
        have f3 := qN.free 3
        have z4 : W3.cell? ⟨b3, 4, none⟩ = some (.int .i64 0) := qN.at rfl
        have f4 := qN.free 4
        obtain ⟨VF, hVF, qF, hsF, hkF, hF⟩ := put5 (w := w) (B := w.heap.size) (b := b3) (w1 := W3) (v0 := .int .i64 0) (v1 := .slice none 0 0) (v2 := .int .i64 0) (v3 := .int .i64 0) (v4 := .int .i64 0) qN (by omega) hB3
        go_upto_region 2 with fail
        try rw [hVF]
        clear hVF z0 f0 z1 f1 z2 f2 z3 f3 z4 f4 hA qN
        go_wp2
        go_ret
        exact ⟨rfl, hF⟩
      · have hans := fun W => answer_stray k R.f2.f0 R.f2.f1 R.f2.f2 W a n c h12 h3 h4
        clear h12 h3 h4
        go_enter Try.func15, Try.ntmps15
        go_upto_region 1 with fail
        try rw [HW.out]
        go_wp2_with fail
        go_at_call 45
        refine (hans _).mono ?_
        rintro e w1 ⟨rfl, hb1⟩
        have hB1 := hBW.trans (hb1.mono hBW.size)
        have qB := qB.below hb1
        clear x0 x1 x2 x3 x4
        have hta := not_stray
        obtain ⟨W3, hW3⟩ : ∃ Z, w1.alloc (.cells #[.int .i64 0, .slice none 0 0, .int .i64 0, .int .i64 0, .int .i64 0] 79) = Z := ⟨_, rfl⟩
        obtain ⟨b3, hb3⟩ : ∃ b, w1.heap.size = b := ⟨_, rfl⟩
        have qN : Blk 79 b3 [.int .i64 0, .slice none 0 0, .int .i64 0, .int .i64 0, .int .i64 0] W3 := by rw [← hW3, ← hb3]; exact Blk.new _ [_, _, _, _, _] w1
        have hA : Below w1.heap.size w1 W3 := by rw [← hW3]; exact (Below.refl _ _).alloc (Nat.le_refl _) _
        have hB3 := hB1.trans (hA.mono hB1.size)
        have hb3w : w.heap.size + 1 ≤ b3 := by have := qB.lt; omega
        have hb3l := qN.lt
        have z0 : W3.cell? ⟨b3, 0, none⟩ = some (.int .i64 0) := qN.at rfl
        have f0 := qN.free 0
        have z1 : W3.cell? ⟨b3, 1, none⟩ = some (.slice none 0 0) := qN.at rfl
        have f1 := qN.free 1
        have z2 : W3.cell? ⟨b3, 2, none⟩ = some (.int .i64 0) := qN.at rfl
        have f2 := qN.free 2
        have z3 : W3.cell? ⟨b3, 3, none⟩ = some (.int .i64 0) := qN.at rfl
        have f3 := qN.free 3
        have z4 : W3.cell? ⟨b3, 4, none⟩ = some (.int .i64 0) := qN.at rfl
        have f4 := qN.free 4
        obtain ⟨VF, hVF, qF, hsF, hkF, hF⟩ := put5 (w := w) (B := w.heap.size) (b := b3) (w1 := W3) (v0 := .int .i64 0) (v1 := .slice none 0 0) (v2 := .int .i64 0) (v3 := .int .i64 0) (v4 := .int .i64 0) qN (by omega) hB3
        go_upto_region 2 with fail
        try rw [hVF]
        clear hVF z0 f0 z1 f1 z2 f2 z3 f3 z4 f4 hA qN
        go_wp2
        go_ret
        exact ⟨rfl, hF⟩


set_option maxHeartbeats 1600000 in
set_option maxRecDepth 100000 in
theorem turn_impl (P : TVisit) (n : Int) (w : World) (a0 : Option Addr) (c0 : Nat) (a3 : Option Addr) (c3 : Nat) (h : VSt w P a0 c0 a3 c3) (hm0 : room (dVersion P.f0) ≤ 1048576) (hm3 : P.f3.length ≤ 1048576) :
    Calls Try.prog 35 #[.agg #[.slice a0 P.f0.length c0, .int .i64 P.f1, .int .i64 P.f2, .slice a3 P.f3.length c3], .int .i64 n] w fun e w' => e = .returned (.bool (atB P n)) ∧ Below w.heap.size w w' := by
  obtain ⟨W0, hW0⟩ : ∃ Z, w.alloc (.cells #[.slice a0 P.f0.length c0, .int .i64 P.f1, .int .i64 P.f2, .slice a3 P.f3.length c3] 27) = Z := ⟨_, rfl⟩
  have qB : Blk 27 w.heap.size [.slice a0 P.f0.length c0, .int .i64 P.f1, .int .i64 P.f2, .slice a3 P.f3.length c3] W0 := by rw [← hW0]; exact Blk.new _ [_, _, _, _] w
  have hB : Below w.heap.size w W0 := by rw [← hW0]; exact (Below.refl _ _).alloc (Nat.le_refl _) _
  have kV := visit_impl P W0 a0 c0 a3 c3 (h.below hB) hm0 hm3
  have kI := fun W' => in_is n 0 100 W'
  have hat : atB P n = (visitB P && inR 0 100 n) := rfl
  obtain ⟨vb, hvb⟩ : ∃ b, visitB P = b := ⟨_, rfl⟩
  obtain ⟨nb, hnb⟩ : ∃ b, inR 0 100 n = b := ⟨_, rfl⟩
  rw [hvb] at kV hat
  rw [hnb] at kI hat
  rw [hat]
  have x0 : W0.cell? ⟨w.heap.size, 0, none⟩ = some (.slice a0 P.f0.length c0) := qB.at rfl
  have x1 : W0.cell? ⟨w.heap.size, 1, none⟩ = some (.int .i64 P.f1) := qB.at rfl
  have x2 : W0.cell? ⟨w.heap.size, 2, none⟩ = some (.int .i64 P.f2) := qB.at rfl
  have x3 : W0.cell? ⟨w.heap.size, 3, none⟩ = some (.slice a3 P.f3.length c3) := qB.at rfl
  have HW := Lib.hid hW0
  clear hW0 hvb hnb hat
  go_enter Try.func35, Try.ntmps35
  go_upto_region 1 with fail
  try rw [HW.out]
  go_wp2_with fail
  go_at_call 11
  refine kV.mono ?_
  rintro e w1 ⟨rfl, hb1⟩
  have hB1 := hB.trans (hb1.mono hB.size)
  cases vb
  · go_wp2
    go_ret
    exact ⟨rfl, hB1⟩
  go_wp2_with fail
  go_at_call 37
  refine (kI _).mono ?_
  rintro e w2 ⟨rfl, rfl⟩
  go_wp2
  go_ret
  exact ⟨rfl, hB1⟩

set_option maxHeartbeats 4000000 in
set_option maxRecDepth 100000 in
theorem fetch_impl (P : TVisit) (W : TWant) (n : Int) (Z : World) (b b2 : Nat) (a0 : Option Addr) (c0 : Nat) (a3 : Option Addr) (c3 : Nat) (h : VSt Z P a0 c0 a3 c3) (qB : Blk 27 b [.slice a0 P.f0.length c0, .int .i64 P.f1, .int .i64 P.f2, .slice a3 P.f3.length c3] Z) (qW : Blk 31 b2 [.int .i64 W.f0, .int .i64 W.f1.f0, .int .i64 W.f1.f1, .int .i64 W.f1.f2] Z) (hm0 : room (dVersion P.f0) ≤ 1048576) (hW : WfA W.f1) (htk : 0 ≤ P.f1 ∧ P.f1 ≤ 1000) (hn100 : 0 ≤ n ∧ n ≤ 100) (r : Int) (HASK : r = valueR (followed P.f0 W.f1 (P.f1 + n)).2) :
    Calls Try.prog 68 #[.int .i64 n, .pointer (some ⟨b, 0, none⟩), .pointer (some ⟨b2, 0, none⟩)] Z fun e w' => e = .returned (.int .i64 r) ∧ Below Z.heap.size Z w' := by
  have x0 : Z.cell? ⟨b, 0, none⟩ = some (.slice a0 P.f0.length c0) := qB.at rfl
  have x1 : Z.cell? ⟨b, 1, none⟩ = some (.int .i64 P.f1) := qB.at rfl
  have x2 : Z.cell? ⟨b, 2, none⟩ = some (.int .i64 P.f2) := qB.at rfl
  have x3 : Z.cell? ⟨b, 3, none⟩ = some (.slice a3 P.f3.length c3) := qB.at rfl
  have y0 : Z.cell? ⟨b2, 0, none⟩ = some (.int .i64 W.f0) := qW.at rfl
  have y1 : Z.cell? ⟨b2, 1, none⟩ = some (.int .i64 W.f1.f0) := qW.at rfl
  have y2 : Z.cell? ⟨b2, 2, none⟩ = some (.int .i64 W.f1.f1) := qW.at rfl
  have y3 : Z.cell? ⟨b2, 3, none⟩ = some (.int .i64 W.f1.f2) := qW.at rfl
  have hf := follow_impl 0 Z.heap.size Z a0 c0 P.f0 h.r0 (Nat.le_refl _) hm0 W.f1 hW (P.f1 + n)
  have hlen : (followed P.f0 W.f1 (P.f1 + n)).2.f1.length ≤ 1048576 := by obtain ⟨B, e⟩ := fol_ans (l := P.f0) (t := P.f1 + n) (k := 4) (Q := [W.f1]) ⟨W.f1, rfl⟩; unfold followed; rw [e]; exact Nat.le_trans (room_answer P.f0 B (P.f1 + n) _ (Nat.le_refl _)) hm0
  obtain ⟨RR, hRR⟩ : ∃ RR, followed P.f0 W.f1 (P.f1 + n) = RR := ⟨_, rfl⟩
  rw [hRR] at hf hlen HASK
  have hw1 : wrap64 (P.f1 + n) = P.f1 + n := IntWalk.wrap64_in _ ⟨by omega, by omega⟩
  have hw2 : IntKind.i64.wrap (P.f1 + n) = P.f1 + n := by rw [IntKind.wrap_i64]; omega
  replace HASK := Lib.hid HASK
  obtain ⟨m0, hm00⟩ : ∃ m, P.f0.length = m := ⟨_, rfl⟩
  rw [hm00] at hf qB x0
  try rw [hm00]
  clear hRR hm00
  go_enter Try.func68, Try.ntmps68
  go_wp2_with fail
  go_at_call 43
  refine hf.mono ?_
  rintro e w2 ⟨k1, m1, S1, k2, m2, S2, rfl, o1, o2, u1, u2, d12, hb2⟩
  have qB := qB.below hb2
  have qW := qW.below hb2
  have hB2 := hb2
  have hz2 := hb2.size
  clear hf x0 x1 x2 x3 y0 y1 y2 y3
  obtain ⟨q, hq⟩ : ∃ q, RR.2 = q := ⟨_, rfl⟩
  rw [hq] at o1 hlen
  try rw [hq] at HASK
  try rw [hq]
  obtain ⟨qs, hqs⟩ : ∃ q, RR.1 = q := ⟨_, rfl⟩
  try rw [hqs] at o2
  try rw [hqs] at HASK
  try rw [hqs]
  clear hq hqs
  obtain ⟨W3, hW3⟩ : ∃ Z, w2.alloc (.cells #[.int .i64 0, .slice none 0 0, .int .i64 0, .int .i64 0, .int .i64 0] 39) = Z := ⟨_, rfl⟩
  obtain ⟨b3, hb3⟩ : ∃ b, w2.heap.size = b := ⟨_, rfl⟩
  have qN : Blk 39 b3 [.int .i64 0, .slice none 0 0, .int .i64 0, .int .i64 0, .int .i64 0] W3 := by rw [← hW3, ← hb3]; exact Blk.new _ [_, _, _, _, _] w2
  have hA : Below w2.heap.size w2 W3 := by rw [← hW3]; exact (Below.refl _ _).alloc (Nat.le_refl _) _
  have hB3 := hB2.trans (hA.mono hB2.size)
  have o1 := Owns.below o1 hA
  have o2 := Owns.below o2 hA
  have hb3w : Z.heap.size ≤ b3 := by omega
  have hb3l := qN.lt
  have z0 : W3.cell? ⟨b3, 0, none⟩ = some (.int .i64 0) := qN.at rfl
  have f0 := qN.free 0
  have z1 : W3.cell? ⟨b3, 1, none⟩ = some (.slice none 0 0) := qN.at rfl
  have f1 := qN.free 1
  have z2 : W3.cell? ⟨b3, 2, none⟩ = some (.int .i64 0) := qN.at rfl
  have f2 := qN.free 2
  have z3 : W3.cell? ⟨b3, 3, none⟩ = some (.int .i64 0) := qN.at rfl
  have f3 := qN.free 3
  have z4 : W3.cell? ⟨b3, 4, none⟩ = some (.int .i64 0) := qN.at rfl
  have f4 := qN.free 4
  obtain ⟨VF, hVF, qF, hsF, hkF, hF⟩ := put5 (w := Z) (B := Z.heap.size) (b := b3) (w1 := W3) (v0 := .int .i64 q.f0) (v1 := .slice k1 q.f1.length m1) (v2 := .int .i64 q.f2.f0) (v3 := .int .i64 q.f2.f1) (v4 := .int .i64 q.f2.f2) qN (by omega) hB3
  have p1 := Owns.keep o1 (w' := VF) (fun t _ hS => hkF t (by have := u1 t hS; omega))
  have hl1 : ∀ t, S1 t → 0 ≤ t ∧ t < VF.heap.size := fun t hS => ⟨Nat.zero_le _, by have := u1 t hS; have := hA.size; omega⟩
  clear hA o1 o2
  have hVal := value_impl 0 VF.heap.size q VF k1 m1 (Owns.lies p1 hl1) (Nat.le_refl _) hlen
  have hra : r = valueR q := HASK.out
  subst hra
  go_upto_region 2 with fail
  try rw [hVF]
  clear hVF z0 f0 z1 f1 z2 f2 z3 f3 z4 f4
  have g0 : VF.cell? ⟨b3, 0, none⟩ = some (.int .i64 q.f0) := qF.at rfl
  have g1 : VF.cell? ⟨b3, 1, none⟩ = some (.slice k1 q.f1.length m1) := qF.at rfl
  have g2 : VF.cell? ⟨b3, 2, none⟩ = some (.int .i64 q.f2.f0) := qF.at rfl
  have g3 : VF.cell? ⟨b3, 3, none⟩ = some (.int .i64 q.f2.f1) := qF.at rfl
  have g4 : VF.cell? ⟨b3, 4, none⟩ = some (.int .i64 q.f2.f2) := qF.at rfl
  go_wp2_with fail
  go_at_call 15
  refine hVal.mono ?_
  rintro e w4 ⟨rfl, hb4⟩
  go_wp2
  go_ret
  exact ⟨rfl, hF.trans (hb4.mono hF.size)⟩

set_option maxRecDepth 100000 in
theorem clock_impl (P : TVisit) (n r : Int) (Z : World) (b : Nat) (a0 : Option Addr) (c0 : Nat) (a3 : Option Addr) (c3 : Nat) (qB : Blk 27 b [.slice a0 P.f0.length c0, .int .i64 P.f1, .int .i64 P.f2, .slice a3 P.f3.length c3] Z) (htk : 0 ≤ P.f1 ∧ P.f1 ≤ 1000) (hn100 : 0 ≤ n ∧ n ≤ 100) (hr1 : r = least 999 (P.f1 + n)) :
    Calls Try.prog 69 #[.int .i64 n, .pointer (some ⟨b, 0, none⟩)] Z fun e w' => e = .returned (.int .i64 r) ∧ Below Z.heap.size Z w' := by
  have x1 : Z.cell? ⟨b, 1, none⟩ = some (.int .i64 P.f1) := qB.at rfl
  have hw1 : wrap64 (P.f1 + n) = P.f1 + n := IntWalk.wrap64_in _ ⟨by omega, by omega⟩
  have hw2 : IntKind.i64.wrap (P.f1 + n) = P.f1 + n := by rw [IntKind.wrap_i64]; omega
  have hmin := fun W => MinMax.min_impl 999 (P.f1 + n) r W (by rw [hr1]; unfold least; split <;> omega)
  clear hr1
  go_enter Try.func69, Try.ntmps69
  go_wp2_with fail
  go_at_call 47
  refine (hmin _).mono ?_
  rintro e w3 ⟨rfl, hb3⟩
  go_wp2
  go_ret
  exact ⟨rfl, hb3⟩

set_option maxRecDepth 100000 in
theorem random_impl (P : TVisit) (n r : Int) (Z : World) (b : Nat) (a0 : Option Addr) (c0 : Nat) (a3 : Option Addr) (c3 : Nat) (qB : Blk 27 b [.slice a0 P.f0.length c0, .int .i64 P.f1, .int .i64 P.f2, .slice a3 P.f3.length c3] Z) (hsd : 0 ≤ P.f2 ∧ P.f2 ≤ 9999) (hn : (Lit.int .i64 n).wf = true) (hr1 : r = Hsh.hash [P.f2, n] % 1000) :
    Calls Try.prog 70 #[.int .i64 n, .pointer (some ⟨b, 0, none⟩)] Z fun e w' => e = .returned (.int .i64 r) ∧ Below Z.heap.size Z w' := by
  have x2 : Z.cell? ⟨b, 2, none⟩ = some (.int .i64 P.f2) := qB.at rfl
  have hrw : Row .i64 0 (Z.heap.size + 1) (Z.alloc (.cells #[.int .i64 P.f2, .int .i64 n] 3)) (some ⟨Z.heap.size, 0, none⟩) 2 [P.f2, n] :=
    ⟨rfl, fun z hz => by
      rcases List.mem_cons.1 hz with rfl | hz
      · exact WalkArith.wf_i64 (by omega)
      · rw [List.mem_singleton.1 hz]; exact hn, fun _ => ⟨_, 0, rfl, Nat.zero_le _, Nat.lt_succ_self _, fun j hj => by
      have q := Blk.new 3 [.int .i64 P.f2, .int .i64 n] Z
      rcases j with _ | _ | j
      · exact q.at rfl
      · exact q.at rfl
      · omega⟩⟩
  have hhash := Hsh.hash_impl 0 (Z.heap.size + 1) _ (some ⟨Z.heap.size, 0, none⟩) 2 2 [P.f2, n] hrw (by omega)
  have hrg := Hsh.hash_range [P.f2, n]
  obtain ⟨hv, hhv⟩ : ∃ v, Hsh.hash [P.f2, n] = v := ⟨_, rfl⟩
  rw [hhv] at hhash hrg hr1
  have hmod := fun W => modi hv 1000 W (by omega) (by omega) (by omega)
  rw [← hr1] at hmod
  have hBN : Below Z.heap.size Z (Z.alloc (.cells #[.int .i64 P.f2, .int .i64 n] 3)) := (Below.refl _ _).alloc (Nat.le_refl _) _
  clear hrw hhv hr1 qB
  go_enter Try.func70, Try.ntmps70
  go_wp2_with fail
  go_at_call 71
  refine hhash.mono ?_
  rintro e w3 ⟨rfl, rfl⟩
  go_wp2_with fail
  go_at_call 48
  refine (hmod _).mono ?_
  rintro e w4 ⟨rfl, rfl⟩
  go_wp2
  go_ret
  exact ⟨rfl, hBN⟩

set_option maxRecDepth 100000 in
theorem input_impl (l : List Int) (n r : Int) (Z : World) (b m c lo hi : Nat) (a : Option Addr) (hrow : Row .i64 lo hi Z a m l) (qS : Blk 25 b [.slice a m c] Z) (hm8 : m ≤ 8) (hp : 0 < m) (hn100 : 0 ≤ n ∧ n ≤ 100) (hr1 : r = l.getD (n.toNat % m) 0) :
    Calls Try.prog 93 #[.int .i64 n, .pointer (some ⟨b, 0, none⟩)] Z fun e w' => e = .returned (.int .i64 r) ∧ Below Z.heap.size Z w' := by
  obtain ⟨j, rfl⟩ : ∃ j : Nat, n = (j : Int) := ⟨n.toNat, by omega⟩
  rw [Int.toNat_natCast] at hr1
  obtain ⟨i, hi2⟩ : ∃ i, j % m = i := ⟨_, rfl⟩
  rw [hi2] at hr1
  have him : i < m := by rw [← hi2]; exact Nat.mod_lt _ hp
  obtain ⟨b4, o4, rfl, _, _, hc4⟩ := hrow.cell him
  rw [← hr1] at hc4
  have hx3 : Z.cell? ⟨b, 0, none⟩ = some (.slice (some ⟨b4, o4, none⟩) m c) := qS.at rfl
  have hmo := fun W => modi (j : Int) (m : Int) W (by omega) (by omega) (by omega)
  rw [show (j : Int) % (m : Int) = (i : Int) from by rw [← hi2]; omega] at hmo
  have him2 : (i : Int) < (m : Int) := by omega
  have hBZ : Below Z.heap.size Z Z := Below.refl _ _
  clear hr1 hi2 hrow
  go_enter Try.func93, Try.ntmps93
  go_upto_region 1 with fail
  refine wp_region_held_drew (S := (fun w' => w'.cell? ⟨b, 0, none⟩ = some (.slice (some ⟨b4, o4, none⟩) m c) ∧ w'.cell? ⟨b4, o4 + i, none⟩ = some (.int .i64 r))) (by kernel_rfl) ⟨hx3, hc4⟩ (fun hHeld => ?_)
  refine wpAnyH_take (i := 0) (v := ?vm0) (List.getElem?_toArray.trans rfl) (by kernel_rfl) (by kernel_rfl) (by kernel_rfl) (fun _ _ _ h => h) (Or.inl ⟨by rfl, ?ym0⟩) (by assumption) ?rm0
  case ym0 => (intro w hSw; (try dsimp only at hSw); go_simp; try with_reducible rfl)
  try simp only [Act.put, List.setIfInBounds_toArray, List.set_cons_zero, List.set_cons_succ]
  refine wpAnyH_take (i := 1) (v := ?vm1) (List.getElem?_toArray.trans rfl) (by kernel_rfl) (by kernel_rfl) (by kernel_rfl) (fun _ _ _ h => h) (Or.inl ⟨by rfl, ?ym1⟩) (by assumption) ?rm1
  case ym1 => (intro w hSw; (try dsimp only at hSw); go_simp; try with_reducible rfl)
  try simp only [Act.put, List.setIfInBounds_toArray, List.set_cons_zero, List.set_cons_succ]
  refine wpAnyH_take (i := 2) (v := ?vm2) (List.getElem?_toArray.trans rfl) (by kernel_rfl) (by kernel_rfl) (by kernel_rfl) (fun _ _ _ h => h) (Or.inl ⟨by rfl, ?ym2⟩) (by assumption) ?rm2
  case ym2 => (intro w hSw; (try dsimp only at hSw); go_simp; try with_reducible rfl)
  try simp only [Act.put, List.setIfInBounds_toArray, List.set_cons_zero, List.set_cons_succ]
  refine wpAnyH_take (i := 3) (v := ?vm3) (List.getElem?_toArray.trans rfl) (by kernel_rfl) (by kernel_rfl) (by kernel_rfl) (fun _ _ _ h => h) (Or.inl ⟨by rfl, ?ym3⟩) (by assumption) ?rm3
  case ym3 => (intro w hSw; (try dsimp only at hSw); go_simp; try with_reducible rfl)
  try simp only [Act.put, List.setIfInBounds_toArray, List.set_cons_zero, List.set_cons_succ]
  refine wpAnyH_ready (rs := [4]) (by kernel_rfl) (by simp) ?_
  refine AllReadyH.cons (List.getElem?_toArray.trans rfl) (fun K hK => ?_) AllReadyH.nil
  go_simp
  go_at_call 48
  refine (hmo _).mono ?_
  rintro e w6 ⟨rfl, rfl⟩
  have s9 : Z.drew.cell? ⟨b, 0, none⟩ = some (.slice (some ⟨b4, o4, none⟩) m c) ∧ Z.drew.cell? ⟨b4, o4 + i, none⟩ = some (.int .i64 r) := ⟨hx3, hc4⟩
  refine hK.out _ _ s9 (fun hHeld => ?_)
  clear hK K
  try simp only [Act.put, List.setIfInBounds_toArray, List.set_cons_zero, List.set_cons_succ]
  refine wpAnyH_take (i := 5) (v := ?vm5) (List.getElem?_toArray.trans rfl) (by kernel_rfl) (by kernel_rfl) (by kernel_rfl) (fun _ _ _ h => h) (Or.inl ⟨by rfl, ?ym5⟩) (by assumption) ?rm5
  case ym5 => (intro w hSw; (try dsimp only at hSw); go_simp; try with_reducible rfl)
  try simp only [Act.put, List.setIfInBounds_toArray, List.set_cons_zero, List.set_cons_succ]
  refine wpAnyH_take (i := 6) (v := ?vm6) (List.getElem?_toArray.trans rfl) (by kernel_rfl) (by kernel_rfl) (by kernel_rfl) (fun _ _ _ h => h) (Or.inl ⟨by rfl, ?ym6⟩) (by assumption) ?rm6
  case ym6 => (intro w hSw; (try dsimp only at hSw); go_simp; try with_reducible rfl)
  try simp only [Act.put, List.setIfInBounds_toArray, List.set_cons_zero, List.set_cons_succ]
  refine wpAnyH_take (i := 7) (v := ?vm7) (List.getElem?_toArray.trans rfl) (by kernel_rfl) (by kernel_rfl) (by kernel_rfl) (fun _ _ _ h => h) (Or.inl ⟨by rfl, ?ym7⟩) (by assumption) ?rm7
  case ym7 => (intro w hSw; (try dsimp only at hSw); go_simp; try with_reducible rfl)
  try simp only [Act.put, List.setIfInBounds_toArray, List.set_cons_zero, List.set_cons_succ]
  refine wpAnyH_done (by kernel_rfl) ?_ _

  go_wp2
  go_ret
  exact ⟨rfl, gbelow_drewN hBZ 1⟩

set_option maxRecDepth 100000 in
theorem absent_is (n : Int) (w : World) :
    Calls Try.prog 73 #[.int .i64 n] w fun e w' => e = .returned (.int .i64 0) ∧ w = w' := by
  go_enter Try.func73, Try.ntmps73
  go_wp2
  go_ret
  exact ⟨rfl, rfl⟩

/-- A function value that gives the number r for the n-th value, in every later world. -/
def Gives (v : Value) (n r : Int) (w : World) : Prop := ∃ (g : Nat) (lb : Array Value), v = .func (.func g) #[] lb ∧ (∀ args w, (callFunc g args).run Try.prog w = .ok (.enter g args) w) ∧
    ∀ Z : World, Below w.heap.size w Z → Calls Try.prog g (#[.int .i64 n] ++ lb) Z fun e z => e = .returned (.int .i64 r) ∧ Below Z.heap.size Z z
theorem Gives.absent (n : Int) (w : World) : Gives (.func (.func 73) #[] #[]) n 0 w :=
  ⟨_, _, rfl, enters_of Try.func73 (by kernel_rfl) rfl, fun Z _ => (absent_is n Z).mono (by rintro e z ⟨rfl, rfl⟩; exact ⟨rfl, Below.refl _ _⟩)⟩

set_option maxRecDepth 100000 in
theorem inturn_impl (l : List Int) (n r : Int) (w : World) (a : Option Addr) (m c lo hi : Nat) (hrow : Row .i64 lo hi w a m l) (hm8 : m ≤ 8) (hn100 : 0 ≤ n ∧ n ≤ 100) (hr1 : r = if 0 < m then l.getD (n.toNat % m) 0 else 0) :
    Calls Try.prog 72 #[.slice a m c] w fun e w' => ∃ v, e = .returned v ∧ Gives v n r w' ∧ Below w.heap.size w w' := by
  have hmf : ∀ (fn : Fn) (first cap : Array Value) (w : World), (Instr.makeFunc fn first cap).run Try.prog w = .ok (.func fn first cap) w := fun _ _ _ _ => rfl
  obtain ⟨W, hWW⟩ : ∃ Z, w.alloc (.cells #[.slice a m c] 25) = Z := ⟨_, rfl⟩
  have qS : Blk 25 w.heap.size [.slice a m c] W := by rw [← hWW]; exact Blk.new _ [_] w
  have hB : Below w.heap.size w W := by rw [← hWW]; exact (Below.refl _ _).alloc (Nat.le_refl _) _
  have hrow := hrow.below hB
  have x0 : W.cell? ⟨w.heap.size, 0, none⟩ = some (.slice a m c) := qS.at rfl
  have HW := Lib.hid hWW
  have HR := Lib.hid hr1
  clear hWW hr1
  by_cases hp : 0 < m
  · have hd : ((m : Int) == 0) = false := by simp; omega
    have hG : Gives (.func (.func 93) #[] #[.pointer (some ⟨w.heap.size, 0, none⟩)]) n r W :=
      ⟨_, _, rfl, enters_of Try.func93 (by kernel_rfl) rfl, fun Z hZ => input_impl l n r Z _ m c lo hi a (hrow.below hZ) (qS.below hZ) hm8 hp hn100 (by rw [HR.out, if_pos hp])⟩
    go_enter Try.func72, Try.ntmps72
    go_upto_region 1 with fail
    try rw [HW.out]
    go_wp2
    go_ret
    exact ⟨_, rfl, hG, hB⟩
  · obtain rfl : m = 0 := by omega
    have hr0 : r = 0 := by rw [HR.out, if_neg hp]
    subst hr0
    have hG := Gives.absent n W
    go_enter Try.func72, Try.ntmps72
    go_upto_region 1 with fail
    try rw [HW.out]
    go_wp2
    go_ret
    exact ⟨_, rfl, hG, hB⟩

set_option maxHeartbeats 1600000 in
set_option maxRecDepth 100000 in
theorem generator_impl (P : TVisit) (W : TWant) (n : Int) (w : World) (a0 : Option Addr) (c0 : Nat) (a3 : Option Addr) (c3 : Nat) (h : VSt w P a0 c0 a3 c3) (hm0 : room (dVersion P.f0) ≤ 1048576) (hW : WfA W.f1) (hn : (Lit.int .i64 n).wf = true) (hat : atB P n = true) :
    Calls Try.prog 36 #[.agg #[.slice a0 P.f0.length c0, .int .i64 P.f1, .int .i64 P.f2, .slice a3 P.f3.length c3], .agg #[.int .i64 W.f0, .int .i64 W.f1.f0, .int .i64 W.f1.f1, .int .i64 W.f1.f2]] w fun e w' => ∃ v, e = .returned v ∧ Gives v n (liveV P W n) w' ∧ Below w.heap.size w w' := by
  have hmf : ∀ (fn : Fn) (first cap : Array Value) (w : World), (Instr.makeFunc fn first cap).run Try.prog w = .ok (.func fn first cap) w := fun _ _ _ _ => rfl
  obtain ⟨W0, hW0⟩ : ∃ Z, (w.alloc (.cells #[.slice a0 P.f0.length c0, .int .i64 P.f1, .int .i64 P.f2, .slice a3 P.f3.length c3] 27)).alloc (.cells #[.int .i64 W.f0, .int .i64 W.f1.f0, .int .i64 W.f1.f1, .int .i64 W.f1.f2] 31) = Z := ⟨_, rfl⟩
  have qB : Blk 27 w.heap.size [.slice a0 P.f0.length c0, .int .i64 P.f1, .int .i64 P.f2, .slice a3 P.f3.length c3] W0 := by rw [← hW0]; exact (Blk.new _ [_, _, _, _] w).alloc _
  have qW : Blk 31 (w.heap.size + 1) [.int .i64 W.f0, .int .i64 W.f1.f0, .int .i64 W.f1.f1, .int .i64 W.f1.f2] W0 := by
    have := Blk.new 31 [.int .i64 W.f0, .int .i64 W.f1.f0, .int .i64 W.f1.f1, .int .i64 W.f1.f2] (w.alloc (.cells #[.slice a0 P.f0.length c0, .int .i64 P.f1, .int .i64 P.f2, .slice a3 P.f3.length c3] 27))
    rw [gsize_alloc] at this
    rw [← hW0]; exact this
  have hB : Below w.heap.size w W0 := by rw [← hW0]; exact ((Below.refl _ _).alloc (Nat.le_refl _) _).alloc (by rw [gsize_alloc]; omega) _
  have hz : w.heap.size + 2 ≤ W0.heap.size := qW.lt
  have hS := h.below hB
  have hlive : liveV P W n = (if atB P n = true then (if W.f0 = 1 then valueR (followed P.f0 W.f1 (P.f1 + n)).2 else if W.f0 = 2 then least 999 (P.f1 + n) else if W.f0 = 3 then Hsh.hash [P.f2, n] % 1000 else if W.f0 = 4 ∧ 0 < P.f3.length then P.f3.getD (n.toNat % P.f3.length) 0 else 0) else 0) := rfl
  rw [if_pos hat] at hlive
  have hat2 : (visitB P && inR 0 100 n) = true := hat
  rw [Bool.and_eq_true] at hat2
  obtain ⟨hsb, htk, hsd, hl8, hheld⟩ := visit_at hat2.1
  have hn100 := inR_at hat2.2
  clear hsb hheld hat hat2
  obtain ⟨r, hr⟩ : ∃ r, liveV P W n = r := ⟨_, rfl⟩
  rw [hr] at hlive ⊢
  clear hr h
  have x3 : W0.cell? ⟨w.heap.size, 3, none⟩ = some (.slice a3 P.f3.length c3) := qB.at rfl
  have y0 : W0.cell? ⟨w.heap.size + 1, 0, none⟩ = some (.int .i64 W.f0) := qW.at rfl
  have HW := Lib.hid hW0
  have HL := Lib.hid hlive
  clear hW0 hlive
  by_cases w1e : W.f0 = 1
  · have hG : Gives (.func (.func 68) #[] #[.pointer (some ⟨w.heap.size, 0, none⟩), .pointer (some ⟨w.heap.size + 1, 0, none⟩)]) n r W0 :=
      ⟨_, _, rfl, enters_of Try.func68 (by kernel_rfl) rfl, fun Z hZ => fetch_impl P W n Z _ _ a0 c0 a3 c3 (hS.below hZ) (qB.below hZ) (qW.below hZ) hm0 hW htk hn100 r (by rw [HL.out, if_pos w1e])⟩
    rw [w1e] at y0
    clear w1e qW
    go_enter Try.func36, Try.ntmps36
    go_upto_region 1 with fail
    try rw [HW.out]
    go_wp2
    go_ret
    exact ⟨_, rfl, hG, hB⟩
  have e1 : (W.f0 == 1) = false := by simpa using w1e
  by_cases w2e : W.f0 = 2
  · have hG : Gives (.func (.func 69) #[] #[.pointer (some ⟨w.heap.size, 0, none⟩)]) n r W0 :=
      ⟨_, _, rfl, enters_of Try.func69 (by kernel_rfl) rfl, fun Z hZ => clock_impl P n r Z _ a0 c0 a3 c3 (qB.below hZ) htk hn100 (by rw [HL.out, if_neg w1e, if_pos w2e])⟩
    rw [w2e] at y0 e1
    clear w1e w2e qW
    go_enter Try.func36, Try.ntmps36
    go_upto_region 1 with fail
    try rw [HW.out]
    go_wp2
    go_ret
    exact ⟨_, rfl, hG, hB⟩
  have e2 : (W.f0 == 2) = false := by simpa using w2e
  by_cases w3e : W.f0 = 3
  · have hG : Gives (.func (.func 70) #[] #[.pointer (some ⟨w.heap.size, 0, none⟩)]) n r W0 :=
      ⟨_, _, rfl, enters_of Try.func70 (by kernel_rfl) rfl, fun Z hZ => random_impl P n r Z _ a0 c0 a3 c3 (qB.below hZ) hsd hn (by rw [HL.out, if_neg w1e, if_neg w2e, if_pos w3e])⟩
    rw [w3e] at y0 e1 e2
    clear w1e w2e w3e qW
    go_enter Try.func36, Try.ntmps36
    go_upto_region 1 with fail
    try rw [HW.out]
    go_wp2
    go_ret
    exact ⟨_, rfl, hG, hB⟩
  have e3 : (W.f0 == 3) = false := by simpa using w3e
  by_cases w4e : W.f0 = 4
  · have hrow := hS.r3.row'.1
    have hT := inturn_impl P.f3 n r W0 a3 P.f3.length c3 _ _ hrow hl8 hn100 (by
      rw [HL.out, if_neg w1e, if_neg w2e, if_neg w3e]
      by_cases hp : 0 < P.f3.length
      · rw [if_pos ⟨w4e, hp⟩, if_pos hp]
      · rw [if_neg (fun e => hp e.2), if_neg hp])
    rw [w4e] at y0 e1 e2 e3
    clear w1e w2e w3e w4e qW hrow
    go_enter Try.func36, Try.ntmps36
    go_upto_region 1 with fail
    try rw [HW.out]
    go_wp2_with fail
    go_at_call 72
    refine hT.mono ?_
    rintro e w2 ⟨v, rfl, hG, hb2⟩
    go_wp2
    go_ret
    exact ⟨_, rfl, hG, hB.trans (hb2.mono hB.size)⟩
  have e4 : (W.f0 == 4) = false := by simpa using w4e
  have hr0 : r = 0 := by rw [HL.out, if_neg w1e, if_neg w2e, if_neg w3e, if_neg (fun e => w4e e.1)]
  subst hr0
  have hG := Gives.absent n W0
  clear w1e w2e w3e w4e qW
  go_enter Try.func36, Try.ntmps36
  go_upto_region 1 with fail
  try rw [HW.out]
  go_wp2
  go_ret
  exact ⟨_, rfl, hG, hB⟩

set_option maxHeartbeats 1600000 in
set_option maxRecDepth 100000 in
theorem live_impl (P : TVisit) (W : TWant) (n : Int) (w : World) (a0 : Option Addr) (c0 : Nat) (a3 : Option Addr) (c3 : Nat) (h : VSt w P a0 c0 a3 c3) (hm0 : room (dVersion P.f0) ≤ 1048576) (hm3 : P.f3.length ≤ 1048576) (hW : WfA W.f1) (hn : (Lit.int .i64 n).wf = true) :
    Calls Try.prog 10 #[.agg #[.slice a0 P.f0.length c0, .int .i64 P.f1, .int .i64 P.f2, .slice a3 P.f3.length c3], .agg #[.int .i64 W.f0, .int .i64 W.f1.f0, .int .i64 W.f1.f1, .int .i64 W.f1.f2], .int .i64 n] w fun e w' => e = .returned (.int .i64 (liveV P W n)) ∧ Below w.heap.size w w' := by
  obtain ⟨W0, hW0⟩ : ∃ Z, (w.alloc (.cells #[.slice a0 P.f0.length c0, .int .i64 P.f1, .int .i64 P.f2, .slice a3 P.f3.length c3] 27)).alloc (.cells #[.int .i64 W.f0, .int .i64 W.f1.f0, .int .i64 W.f1.f1, .int .i64 W.f1.f2] 31) = Z := ⟨_, rfl⟩
  have qB : Blk 27 w.heap.size [.slice a0 P.f0.length c0, .int .i64 P.f1, .int .i64 P.f2, .slice a3 P.f3.length c3] W0 := by rw [← hW0]; exact (Blk.new _ [_, _, _, _] w).alloc _
  have qW : Blk 31 (w.heap.size + 1) [.int .i64 W.f0, .int .i64 W.f1.f0, .int .i64 W.f1.f1, .int .i64 W.f1.f2] W0 := by
    have := Blk.new 31 [.int .i64 W.f0, .int .i64 W.f1.f0, .int .i64 W.f1.f1, .int .i64 W.f1.f2] (w.alloc (.cells #[.slice a0 P.f0.length c0, .int .i64 P.f1, .int .i64 P.f2, .slice a3 P.f3.length c3] 27))
    rw [gsize_alloc] at this
    rw [← hW0]; exact this
  have hB : Below w.heap.size w W0 := by rw [← hW0]; exact ((Below.refl _ _).alloc (Nat.le_refl _) _).alloc (by rw [gsize_alloc]; omega) _
  have kT := turn_impl P n W0 a0 c0 a3 c3 (h.below hB) hm0 hm3
  have kG := fun (W' : World) (hb : Below W0.heap.size W0 W') (ha : atB P n = true) => generator_impl P W n W' a0 c0 a3 c3 ((h.below hB).below hb) hm0 hW hn ha
  have hno : atB P n = false → liveV P W n = 0 := fun e => by unfold liveV; rw [e]; rfl
  obtain ⟨tb, htb⟩ : ∃ b, atB P n = b := ⟨_, rfl⟩
  obtain ⟨r, hr⟩ : ∃ r, liveV P W n = r := ⟨_, rfl⟩
  rw [htb] at kT hno
  simp only [htb, hr] at kG
  rw [hr] at hno ⊢
  have HG := Lib.hid kG
  clear kG
  have x0 : W0.cell? ⟨w.heap.size, 0, none⟩ = some (.slice a0 P.f0.length c0) := qB.at rfl
  have x1 : W0.cell? ⟨w.heap.size, 1, none⟩ = some (.int .i64 P.f1) := qB.at rfl
  have x2 : W0.cell? ⟨w.heap.size, 2, none⟩ = some (.int .i64 P.f2) := qB.at rfl
  have x3 : W0.cell? ⟨w.heap.size, 3, none⟩ = some (.slice a3 P.f3.length c3) := qB.at rfl
  have y0 : W0.cell? ⟨w.heap.size + 1, 0, none⟩ = some (.int .i64 W.f0) := qW.at rfl
  have y1 : W0.cell? ⟨w.heap.size + 1, 1, none⟩ = some (.int .i64 W.f1.f0) := qW.at rfl
  have y2 : W0.cell? ⟨w.heap.size + 1, 2, none⟩ = some (.int .i64 W.f1.f1) := qW.at rfl
  have y3 : W0.cell? ⟨w.heap.size + 1, 3, none⟩ = some (.int .i64 W.f1.f2) := qW.at rfl
  have HW := Lib.hid hW0
  clear hW0 htb hr h
  go_enter Try.func10, Try.ntmps10
  go_upto_region 1 with fail
  try rw [HW.out]
  go_wp2_with fail
  go_at_call 35
  refine kT.mono ?_
  rintro e w1 ⟨rfl, hb1⟩
  have hB1 := hB.trans (hb1.mono hB.size)
  have qB := qB.below hb1
  have qW := qW.below hb1
  clear x0 x1 x2 x3 y0 y1 y2 y3 kT
  cases tb
  · have hr0 := hno rfl
    subst hr0
    go_wp2
    go_ret
    exact ⟨rfl, hB1⟩
  have x0 : w1.cell? ⟨w.heap.size, 0, none⟩ = some (.slice a0 P.f0.length c0) := qB.at rfl
  have x1 : w1.cell? ⟨w.heap.size, 1, none⟩ = some (.int .i64 P.f1) := qB.at rfl
  have x2 : w1.cell? ⟨w.heap.size, 2, none⟩ = some (.int .i64 P.f2) := qB.at rfl
  have x3 : w1.cell? ⟨w.heap.size, 3, none⟩ = some (.slice a3 P.f3.length c3) := qB.at rfl
  have y0 : w1.cell? ⟨w.heap.size + 1, 0, none⟩ = some (.int .i64 W.f0) := qW.at rfl
  have y1 : w1.cell? ⟨w.heap.size + 1, 1, none⟩ = some (.int .i64 W.f1.f0) := qW.at rfl
  have y2 : w1.cell? ⟨w.heap.size + 1, 2, none⟩ = some (.int .i64 W.f1.f1) := qW.at rfl
  have y3 : w1.cell? ⟨w.heap.size + 1, 3, none⟩ = some (.int .i64 W.f1.f2) := qW.at rfl
  have kG := HG.out _ hb1 rfl
  go_wp2_with fail
  go_at_call 36
  refine kG.mono ?_
  rintro e w2 ⟨v, rfl, ⟨g, lb, rfl, hen, hg⟩, hb2⟩
  have hB2 := hB1.trans (hb2.mono hB1.size)
  go_wp2_with fail
  refine (hg _ (Below.refl _ _)).mono ?_
  rintro e w3 ⟨rfl, hb3⟩
  go_wp2
  go_ret
  exact ⟨rfl, hB2.trans (hb3.mono hB2.size)⟩

set_option maxHeartbeats 4000000 in
set_option maxRecDepth 100000 in
theorem ask_impl (P : TVisit) (W : TWant) (n : Int) (w : World) (a0 : Option Addr) (c0 : Nat) (a3 : Option Addr) (c3 : Nat) (h : VSt w P a0 c0 a3 c3) (hm0 : room (dVersion P.f0) ≤ 1048576) (hm3 : P.f3.length ≤ 1048576) (hW : WfA W.f1) :
    Calls Try.prog 13 #[.agg #[.slice a0 P.f0.length c0, .int .i64 P.f1, .int .i64 P.f2, .slice a3 P.f3.length c3], .agg #[.int .i64 W.f0, .int .i64 W.f1.f0, .int .i64 W.f1.f1, .int .i64 W.f1.f2], .int .i64 n] w (GivenA w (askV P W n)) := by
  obtain ⟨W0, hW0⟩ : ∃ Z, (w.alloc (.cells #[.slice a0 P.f0.length c0, .int .i64 P.f1, .int .i64 P.f2, .slice a3 P.f3.length c3] 27)).alloc (.cells #[.int .i64 W.f0, .int .i64 W.f1.f0, .int .i64 W.f1.f1, .int .i64 W.f1.f2] 31) = Z := ⟨_, rfl⟩
  have qB : Blk 27 w.heap.size [.slice a0 P.f0.length c0, .int .i64 P.f1, .int .i64 P.f2, .slice a3 P.f3.length c3] W0 := by rw [← hW0]; exact (Blk.new _ [_, _, _, _] w).alloc _
  have qW : Blk 31 (w.heap.size + 1) [.int .i64 W.f0, .int .i64 W.f1.f0, .int .i64 W.f1.f1, .int .i64 W.f1.f2] W0 := by
    have := Blk.new 31 [.int .i64 W.f0, .int .i64 W.f1.f0, .int .i64 W.f1.f1, .int .i64 W.f1.f2] (w.alloc (.cells #[.slice a0 P.f0.length c0, .int .i64 P.f1, .int .i64 P.f2, .slice a3 P.f3.length c3] 27))
    rw [gsize_alloc] at this
    rw [← hW0]; exact this
  have hB : Below w.heap.size w W0 := by rw [← hW0]; exact ((Below.refl _ _).alloc (Nat.le_refl _) _).alloc (by rw [gsize_alloc]; omega) _
  have hz : w.heap.size + 2 ≤ W0.heap.size := qW.lt
  have kT := turn_impl P n W0 a0 c0 a3 c3 (h.below hB) hm0 hm3
  have hask : askV P W n = (if W.f0 = 1 ∧ atB P n = true then (followed P.f0 W.f1 (P.f1 + n)).1 else []) := rfl
  have hvis : atB P n = true → (0 ≤ P.f1 ∧ P.f1 ≤ 1000) ∧ (0 ≤ n ∧ n ≤ 100) := fun e => by
    have e2 : (visitB P && inR 0 100 n) = true := e
    rw [Bool.and_eq_true] at e2
    exact ⟨(visit_at e2.1).2.1, inR_at e2.2⟩
  obtain ⟨tb, htb⟩ : ∃ b, atB P n = b := ⟨_, rfl⟩
  rw [htb] at kT hask hvis
  obtain ⟨r, hr⟩ : ∃ r, askV P W n = r := ⟨_, rfl⟩
  rw [hr] at hask ⊢
  have x0 : W0.cell? ⟨w.heap.size, 0, none⟩ = some (.slice a0 P.f0.length c0) := qB.at rfl
  have x1 : W0.cell? ⟨w.heap.size, 1, none⟩ = some (.int .i64 P.f1) := qB.at rfl
  have x2 : W0.cell? ⟨w.heap.size, 2, none⟩ = some (.int .i64 P.f2) := qB.at rfl
  have x3 : W0.cell? ⟨w.heap.size, 3, none⟩ = some (.slice a3 P.f3.length c3) := qB.at rfl
  have y0 : W0.cell? ⟨w.heap.size + 1, 0, none⟩ = some (.int .i64 W.f0) := qW.at rfl
  have y1 : W0.cell? ⟨w.heap.size + 1, 1, none⟩ = some (.int .i64 W.f1.f0) := qW.at rfl
  have y2 : W0.cell? ⟨w.heap.size + 1, 2, none⟩ = some (.int .i64 W.f1.f1) := qW.at rfl
  have y3 : W0.cell? ⟨w.heap.size + 1, 3, none⟩ = some (.int .i64 W.f1.f2) := qW.at rfl
  have HW := Lib.hid hW0
  have HL := Lib.hid hask
  have HVIS := Lib.hid hvis
  clear hW0 htb hr hask hvis
  by_cases w1e : W.f0 = 1
  · rw [w1e] at qW y0
    have HK1 := Lib.hid w1e
    clear w1e
    go_enter Try.func13, Try.ntmps13
    go_upto_region 1 with fail
    try rw [HW.out]
    go_wp2_with fail
    go_at_call 35
    refine kT.mono ?_
    rintro e w1 ⟨rfl, hb1⟩
    have hB1 := hB.trans (hb1.mono hB.size)
    have qB := qB.below hb1
    have qW := qW.below hb1
    have hz1 := Nat.le_trans hz hb1.size
    clear x0 x1 x2 x3 y0 y1 y2 y3 kT
    have x0 : w1.cell? ⟨w.heap.size, 0, none⟩ = some (.slice a0 P.f0.length c0) := qB.at rfl
    have x1 : w1.cell? ⟨w.heap.size, 1, none⟩ = some (.int .i64 P.f1) := qB.at rfl
    have x2 : w1.cell? ⟨w.heap.size, 2, none⟩ = some (.int .i64 P.f2) := qB.at rfl
    have x3 : w1.cell? ⟨w.heap.size, 3, none⟩ = some (.slice a3 P.f3.length c3) := qB.at rfl
    have y0 : w1.cell? ⟨w.heap.size + 1, 0, none⟩ = some (.int .i64 1) := qW.at rfl
    have y1 : w1.cell? ⟨w.heap.size + 1, 1, none⟩ = some (.int .i64 W.f1.f0) := qW.at rfl
    have y2 : w1.cell? ⟨w.heap.size + 1, 2, none⟩ = some (.int .i64 W.f1.f1) := qW.at rfl
    have y3 : w1.cell? ⟨w.heap.size + 1, 3, none⟩ = some (.int .i64 W.f1.f2) := qW.at rfl
    cases tb
    · have hr0 : r = [] := by rw [HL.out]; simp
      subst hr0
      go_wp2
      go_ret
      exact given_none w1 hB1
    obtain ⟨htk, hn100⟩ := HVIS.out rfl
    have HASK : r = (followed P.f0 W.f1 (P.f1 + n)).1 := by rw [HL.out, if_pos ⟨HK1.out, rfl⟩]
    go_upto_region 3 with fail
    have hf := follow_impl 0 w1.heap.size w1 a0 c0 P.f0 (h.below hB1).r0 (Nat.le_refl _) hm0 W.f1 hW (P.f1 + n)
    have hlen : (followed P.f0 W.f1 (P.f1 + n)).2.f1.length ≤ 1048576 := by obtain ⟨B, e⟩ := fol_ans (l := P.f0) (t := P.f1 + n) (k := 4) (Q := [W.f1]) ⟨W.f1, rfl⟩; unfold followed; rw [e]; exact Nat.le_trans (room_answer P.f0 B (P.f1 + n) _ (Nat.le_refl _)) hm0
    obtain ⟨RR, hRR⟩ : ∃ RR, followed P.f0 W.f1 (P.f1 + n) = RR := ⟨_, rfl⟩
    rw [hRR] at hf hlen HASK
    have hw1 : wrap64 (P.f1 + n) = P.f1 + n := IntWalk.wrap64_in _ ⟨by omega, by omega⟩
    have hw2 : IntKind.i64.wrap (P.f1 + n) = P.f1 + n := by rw [IntKind.wrap_i64]; omega
    replace HASK := Lib.hid HASK
    obtain ⟨m0, hm00⟩ : ∃ m, P.f0.length = m := ⟨_, rfl⟩
    rw [hm00] at hf qB x0
    try rw [hm00]
    clear hRR hm00
    go_wp2_with fail
    go_at_call 43
    refine hf.mono ?_
    rintro e w2 ⟨k1, m1, S1, k2, m2, S2, rfl, o1, o2, u1, u2, d12, hb2⟩
    have qB := qB.below hb2
    have qW := qW.below hb2
    have hB2 := hB1.trans (hb2.mono hB1.size)
    have hz2 := hb2.size
    clear hf x0 x1 x2 x3 y0 y1 y2 y3
    obtain ⟨q, hq⟩ : ∃ q, RR.2 = q := ⟨_, rfl⟩
    rw [hq] at o1 hlen
    try rw [hq] at HASK
    try rw [hq]
    obtain ⟨qs, hqs⟩ : ∃ q, RR.1 = q := ⟨_, rfl⟩
    try rw [hqs] at o2
    try rw [hqs] at HASK
    try rw [hqs]
    clear hq hqs
    obtain ⟨W3, hW3⟩ : ∃ Z, w2.alloc (.cells #[.int .i64 0, .slice none 0 0, .int .i64 0, .int .i64 0, .int .i64 0] 39) = Z := ⟨_, rfl⟩
    obtain ⟨b3, hb3⟩ : ∃ b, w2.heap.size = b := ⟨_, rfl⟩
    have qN : Blk 39 b3 [.int .i64 0, .slice none 0 0, .int .i64 0, .int .i64 0, .int .i64 0] W3 := by rw [← hW3, ← hb3]; exact Blk.new _ [_, _, _, _, _] w2
    have hA : Below w2.heap.size w2 W3 := by rw [← hW3]; exact (Below.refl _ _).alloc (Nat.le_refl _) _
    have hB3 := hB2.trans (hA.mono hB2.size)
    have o1 := Owns.below o1 hA
    have o2 := Owns.below o2 hA
    have hb3w : w.heap.size + 2 ≤ b3 := by omega
    have hb3l := qN.lt
    have z0 : W3.cell? ⟨b3, 0, none⟩ = some (.int .i64 0) := qN.at rfl
    have f0 := qN.free 0
    have z1 : W3.cell? ⟨b3, 1, none⟩ = some (.slice none 0 0) := qN.at rfl
    have f1 := qN.free 1
    have z2 : W3.cell? ⟨b3, 2, none⟩ = some (.int .i64 0) := qN.at rfl
    have f2 := qN.free 2
    have z3 : W3.cell? ⟨b3, 3, none⟩ = some (.int .i64 0) := qN.at rfl
    have f3 := qN.free 3
    have z4 : W3.cell? ⟨b3, 4, none⟩ = some (.int .i64 0) := qN.at rfl
    have f4 := qN.free 4
    obtain ⟨VF, hVF, qF, hsF, hkF, hF⟩ := put5 (w := w) (B := w.heap.size) (b := b3) (w1 := W3) (v0 := .int .i64 q.f0) (v1 := .slice k1 q.f1.length m1) (v2 := .int .i64 q.f2.f0) (v3 := .int .i64 q.f2.f1) (v4 := .int .i64 q.f2.f2) qN (by omega) hB3
    have p1 := Owns.keep o1 (w' := VF) (fun t _ hS => hkF t (by have := u1 t hS; omega))
    have p2 := Owns.keep o2 (w' := VF) (fun t _ hS => hkF t (by have := u2 t hS; omega))
    have hl1 : ∀ t, S1 t → 0 ≤ t ∧ t < VF.heap.size := fun t hS => ⟨Nat.zero_le _, by have := u1 t hS; have := hA.size; omega⟩
    have hl2 : ∀ t, S2 t → w.heap.size ≤ t ∧ t < VF.heap.size := fun t hS => ⟨by have := u2 t hS; have := hB1.size; omega, by have := u2 t hS; have := hA.size; omega⟩
    clear hA o1 o2
    have hra : r = qs := HASK.out
    subst hra
    go_upto_region 4 with fail
    try rw [hVF]
    clear hVF z0 f0 z1 f1 z2 f2 z3 f3 z4 f4
    go_wp2
    go_ret
    exact ⟨k2, m2, S2, rfl, p2, hl2, hF⟩
  · have e1 : (W.f0 == 1) = false := by simpa using w1e
    have e2 : (W.f0 != 1) = true := by simpa using w1e
    have hr0 : r = [] := by rw [HL.out, if_neg (fun e => w1e e.1)]
    subst hr0
    clear w1e kT
    go_enter Try.func13, Try.ntmps13
    go_upto_region 1 with fail
    try rw [HW.out]
    go_wp2
    go_ret
    exact given_none W0 hB

theorem implV : ImplV where
  visit := fun P w a0 c0 a3 c3 h hm0 hm3 _ _ => visit_impl P w a0 c0 a3 c3 h hm0 hm3
  value := value_impl
  live := fun P W n w a0 c0 a3 c3 h hm0 hm3 _ _ _ hW hn => live_impl P W n w a0 c0 a3 c3 h hm0 hm3 hW hn
  ask := fun P W n w a0 c0 a3 c3 h hm0 hm3 _ _ _ hW _ => ask_impl P W n w a0 c0 a3 c3 h hm0 hm3 hW

end Go.Proofs.Ytagnhfalmefbhaa.Visits
