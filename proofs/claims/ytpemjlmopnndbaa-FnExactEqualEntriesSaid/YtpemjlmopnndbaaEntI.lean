/-
  Entries of a recording, the program: which are valid, when two lists have the same ones.
  Conditions: the lists lie in memory, with 2^20 entries at most.
-/
import Derived.Test.YtpemjlmopnndbaaEntMath
import Derived.Test.YtpemjlmopnndbaaBlk
import Derived.Laws.StructEq
namespace Go.Proofs.Ytpemjlmopnndbaa.Rec
open Go Go.RowKit Go.Proofs.Ytpemjlmopnndbaa.Mem Go.Proofs.Ytpemjlmopnndbaa.Gen Go.Proofs.Ytpemjlmopnndbaa.Scripts Go.Proofs.Ytpemjlmopnndbaa.Range
set_option linter.unusedVariables false

theorem in_isE (x lo hi : Int) (w : World) :
    Calls Try.prog 21 #[.int .i64 x, .int .i64 lo, .int .i64 hi] w fun e w' => e = .returned (.bool (inR lo hi x)) ∧ w = w' := by
  by_cases h : lo ≤ x ∧ x ≤ hi
  · rw [inR_yes h.1 h.2]; exact in_yes x lo hi w h.1 h.2
  · rw [inR_no (by omega)]; exact in_no x lo hi w (by omega)
set_option maxRecDepth 100000 in
theorem asksE (k : Int) (w : World) :
    Calls Try.prog 20 #[.int .i64 k] w fun e w' => e = .returned (.bool (asksB k)) ∧ w = w' := by
  go_enter Try.func20, Try.ntmps20
  go_wp2_with (go_at_call 21; refine (in_isE k 1 4 _).mono ?_; rintro e w1 ⟨rfl, rfl⟩)
  go_ret
  exact ⟨rfl, rfl⟩
theorem eql_adr (a b c a' b' c' : Int) (w : World) : (binOp .eql 31 (.agg #[.int .i64 a, .int .i64 b, .int .i64 c]) (.agg #[.int .i64 a', .int .i64 b', .int .i64 c'])).run Try.prog w = .ok (.bool ((a == a') && ((b == b') && (c == c')))) w := by
  obtain ⟨r1, h1⟩ : ∃ r, (a == a') = r := ⟨_, rfl⟩
  obtain ⟨r2, h2⟩ : ∃ r, (b == b') = r := ⟨_, rfl⟩
  obtain ⟨r3, h3⟩ : ∃ r, (c == c') = r := ⟨_, rfl⟩
  rw [h1, h2, h3]
  cases r1 <;> cases r2 <;> cases r3 <;> go_simp
theorem zero_is (a b c : Int) : ((a == 0) && ((b == 0) && (c == 0))) = zeroA a b c := by
  unfold zeroA
  by_cases h : a = 0 ∧ b = 0 ∧ c = 0
  · obtain ⟨rfl, rfl, rfl⟩ := h; rfl
  · rw [decide_eq_false h]
    cases hh : ((a == 0) && ((b == 0) && (c == 0))) with
    | false => rfl
    | true => simp only [Bool.and_eq_true, beq_iff_eq] at hh; exact absurd hh h

set_option maxHeartbeats 1600000 in
set_option maxRecDepth 100000 in
theorem entry_impl (k h p q v : Int) (w : World) :
    Calls Try.prog 16 #[.agg #[.int .i64 k, .int .i64 h, .int .i64 p, .int .i64 q, .int .i64 v]] w fun e w' => e = .returned (.bool (entryB ⟨k, ⟨h, p, q⟩, v⟩)) ∧ Below w.heap.size w w' := by
  have hent : entryB ⟨k, ⟨h, p, q⟩, v⟩ = (asksB k && (inR 0 999 v && placeB k h p q)) := rfl
  rw [hent]
  clear hent
  obtain ⟨W, hW⟩ : ∃ Z, w.alloc (.cells #[.int .i64 k, .int .i64 h, .int .i64 p, .int .i64 q, .int .i64 v] 33) = Z := ⟨_, rfl⟩
  have hB : Below w.heap.size w W := by rw [← hW]; exact (Below.refl _ _).alloc (Nat.le_refl _) _
  have qE : Blk 33 w.heap.size [.int .i64 k, .int .i64 h, .int .i64 p, .int .i64 q, .int .i64 v] W := by rw [← hW]; exact Blk.new _ [_, _, _, _, _] w
  obtain ⟨bE, hbE⟩ : ∃ b, w.heap.size = b := ⟨_, rfl⟩
  rw [hbE] at qE
  have HW := Lib.hid hW
  have HBE := Lib.hid hbE
  have kA := fun V => asksE k V
  have kI := fun V => in_isE v 0 999 V
  have kD := fun V => Adr.is_impl h p q V
  have kE := fun V => eql_adr h p q 0 0 0 V
  simp only [zero_is] at kE
  have hplace : placeB k h p q = if k = 1 then Adr.okA h p q else zeroA h p q := rfl
  rw [hplace]
  obtain ⟨r1, hr1⟩ : ∃ r, asksB k = r := ⟨_, rfl⟩
  obtain ⟨r2, hr2⟩ : ∃ r, inR 0 999 v = r := ⟨_, rfl⟩
  obtain ⟨r3, hr3⟩ : ∃ r, Adr.okA h p q = r := ⟨_, rfl⟩
  obtain ⟨r4, hr4⟩ : ∃ r, zeroA h p q = r := ⟨_, rfl⟩
  simp only [hr1] at kA
  simp only [hr2] at kI
  simp only [hr3] at kD
  simp only [hr4] at kE
  rw [hr1, hr2, hr3, hr4]
  obtain ⟨r5, hr5⟩ : ∃ r, (if k = 1 then r3 else r4) = r := ⟨_, rfl⟩
  rw [hr5]
  have HR5 := Lib.hid hr5
  clear hr1 hr2 hr3 hr4 hr5 hplace hW hbE
  go_enter Try.func16, Try.ntmps16
  go_upto_region 1 with fail
  rw [HW.out, HBE.out]
  have y0 : W.cell? ⟨bE, 0, none⟩ = some (.int .i64 k) := qE.at rfl
  have y1 : W.cell? ⟨bE, 1, none⟩ = some (.int .i64 h) := qE.at rfl
  have y2 : W.cell? ⟨bE, 2, none⟩ = some (.int .i64 p) := qE.at rfl
  have y3 : W.cell? ⟨bE, 3, none⟩ = some (.int .i64 q) := qE.at rfl
  have y4 : W.cell? ⟨bE, 4, none⟩ = some (.int .i64 v) := qE.at rfl
  go_wp2_with fail
  go_at_call 20
  refine (kA _).mono ?_
  rintro e w2 ⟨rfl, rfl⟩
  cases r1
  · go_wp2
    go_ret
    exact ⟨rfl, hB⟩
  go_wp2_with fail
  go_at_call 21
  refine (kI _).mono ?_
  rintro e w2 ⟨rfl, rfl⟩
  cases r2
  · go_wp2
    go_ret
    exact ⟨rfl, hB⟩
  by_cases hk : k = 1
  · subst hk
    have e5 := HR5.out
    rw [if_pos rfl] at e5
    subst e5
    clear HR5
    go_wp2_with fail
    go_at_call 22
    refine (kD _).mono ?_
    rintro e w2 ⟨rfl, hb2⟩
    have hB2 := hB.trans (hb2.mono hB.size)
    clear y0 y1 y2 y3 y4
    go_wp2
    go_ret
    exact ⟨rfl, hB2⟩
  · have hk1 : (k == 1) = false := by simpa using hk
    have e5 := HR5.out
    rw [if_neg hk] at e5
    subst e5
    clear HR5
    go_wp2
    go_ret
    exact ⟨rfl, hB⟩

set_option maxHeartbeats 800000 in
set_option maxRecDepth 100000 in
theorem are_impl (lo hi : Nat) (w : World) (A : Option Addr) (c : Nat) (l : List TEntry) (h : Lies lo hi w (dEntry l) (.slice A l.length c)) (hh : hi ≤ w.heap.size) (hm : l.length ≤ 1048576) :
    Calls Try.prog 8 #[.slice A l.length c] w fun e w' => e = .returned (.bool (entriesB l)) ∧ Below w.heap.size w w' := by
  obtain ⟨n, hn⟩ : ∃ n, l.length = n := ⟨_, rfl⟩
  obtain ⟨r, hr⟩ : ∃ r, entriesB l = r := ⟨_, rfl⟩
  rw [hr]
  rw [hn] at h hm ⊢
  have HN := Lib.hid hn
  have HR := Lib.hid hr
  clear hn hr
  by_cases h16 : n ≤ 16
  rotate_left
  · have hd : decide ((n : Int) > 16) = true := by simp; omega
    have hd2 : decide ((16 : Int) < n) = true := by simp; omega
    have e1 : r = false := by rw [← HR.out]; unfold entriesB; rw [HN.out, decide_eq_false (by omega)]; simp
    go_enter Try.func8, Try.ntmps8
    go_wp2
    go_ret
    exact ⟨by rw [e1]; rfl, Below.refl _ _⟩
  have hd0 : decide ((n : Int) > 16) = false := by simp; omega
  have hd1 : decide ((16 : Int) < n) = false := by simp; omega
  go_enter Try.func8, Try.ntmps8
  go_wp2
  go_loopw [10] (fun i wr => ∃ j : Nat, j ≤ n ∧ i = .int .i64 j ∧ AllE l j ∧ Below w.heap.size w wr) (fun i _ => n - (Go.RowKit.intOf i).toNat)
  case atStart => exact ⟨0, Nat.zero_le _, rfl, AllE.zero _, Below.refl _ _⟩
  case round =>
    obtain ⟨j, hj, rfl, hal, hbl⟩ := hrel
    by_cases hlt : j < n
    · obtain ⟨b, off, rfl, _, _, hc, _⟩ := at_Entry (h.under hbl hh) hlt
      have HNO := Lib.hid (fun h => entries_no (l := l) (j := j) (by rw [HN.out]; exact hlt) h)
      have HYE := Lib.hid (fun h => hal.next h)
      obtain ⟨P, hP⟩ : ∃ P, l.getD j nEntry = P := ⟨_, rfl⟩
      rw [hP] at hc HNO HYE
      obtain ⟨c0, c1, c2, c3, c4⟩ : wr.cell? ⟨b, off + j * 5, none⟩ = some (.int .i64 P.f0) ∧ wr.cell? ⟨b, off + j * 5 + 1, none⟩ = some (.int .i64 P.f1.f0) ∧ wr.cell? ⟨b, off + j * 5 + 2, none⟩ = some (.int .i64 P.f1.f1) ∧ wr.cell? ⟨b, off + j * 5 + 3, none⟩ = some (.int .i64 P.f1.f2) ∧ wr.cell? ⟨b, off + j * 5 + 4, none⟩ = some (.int .i64 P.f2) := ⟨hc.c0, hc.c1, hc.c2, hc.c3, hc.c4⟩
      have hB := hbl.alloc hbl.size (.cells #[.int .i64 P.f0, .int .i64 P.f1.f0, .int .i64 P.f1.f1, .int .i64 P.f1.f2, .int .i64 P.f2] 33)
      have hok := fun W => entry_impl P.f0 P.f1.f0 P.f1.f1 P.f1.f2 P.f2 W
      obtain ⟨r1, hr1⟩ : ∃ r, entryB ⟨P.f0, ⟨P.f1.f0, P.f1.f1, P.f1.f2⟩, P.f2⟩ = r := ⟨_, rfl⟩
      simp only [hr1] at hok
      have HR1 := Lib.hid (show entryB P = r1 from hr1)
      clear hr1 hP hal hc
      go_wp2_with fail
      go_at_call 16
      refine (hok _).mono ?_
      rintro e w1 ⟨rfl, hb1⟩
      have hbl1 := hB.trans (hb1.mono hB.size)
      cases r1 with
      | false =>
        go_wp2
        go_ret
        have e1 := HNO.out HR1.out
        rw [HR.out] at e1
        exact ⟨by rw [e1]; rfl, hbl1⟩
      | true =>
        have hal2 := HYE.out HR1.out
        go_wp2
        go_roundw
        case rel => exact ⟨j + 1, by omega, by go_num, hal2, hbl1⟩
        case measure => simp [Go.RowKit.intOf]; omega
    · have hd : decide ((j : Int) < (n : Int)) = false := by simp; omega
      have e1 := entries_end hal (by rw [HN.out]; omega)
      rw [HR.out, HN.out, decide_eq_true (by omega)] at e1
      go_wp2
      go_ret
      exact ⟨by rw [e1]; rfl, hbl⟩

theorem eq_valsI {a b : TEntry} : entQ a b = true ↔ (a.f0 = b.f0 ∧ a.f1.f0 = b.f1.f0 ∧ a.f1.f1 = b.f1.f1 ∧ a.f1.f2 = b.f1.f2 ∧ a.f2 = b.f2) := by unfold entQ; simp only [Bool.and_eq_true, beq_iff_eq]
set_option maxHeartbeats 1600000 in
set_option maxRecDepth 100000 in
theorem same_any (x1 y1 x2 y2 : Nat) (w : World) (A : Option Addr) (c : Nat) (l : List TEntry) (A2 : Option Addr) (c2 : Nat) (l2 : List TEntry) (h : Lies x1 y1 w (dEntry l) (.slice A l.length c)) (h2 : Lies x2 y2 w (dEntry l2) (.slice A2 l2.length c2)) (s1 : y1 ≤ w.heap.size) (s2 : y2 ≤ w.heap.size) (hm : l.length ≤ 1048576) (hm2 : l2.length ≤ 1048576) :
    Calls Try.prog 18 #[.slice A l.length c, .slice A2 l2.length c2] w fun e w' => e = .returned (.bool (sameE l l2)) ∧ Below w.heap.size w w' := by
  obtain ⟨r, hr⟩ : ∃ r, sameE l l2 = r := ⟨_, rfl⟩
  have HR := Lib.hid hr
  rw [hr]
  clear hr
  obtain ⟨n, hn⟩ : ∃ n, l.length = n := ⟨_, rfl⟩
  obtain ⟨m, hm0⟩ : ∃ m, l2.length = m := ⟨_, rfl⟩
  rw [hn] at h hm ⊢
  rw [hm0] at h2 hm2 ⊢
  have HN := Lib.hid hn
  have HM := Lib.hid hm0
  clear hn hm0
  by_cases hnm : n = m
  · subst hnm
    go_enter Try.func18, Try.ntmps18
    go_wp2_with fail
    go_loopw [13] (fun i wr => ∃ j : Nat, j ≤ n ∧ i = .int .i64 j ∧ SameUp l l2 j ∧ Below w.heap.size w wr) (fun i _ => n - (Go.RowKit.intOf i).toNat)
    case atStart => exact ⟨0, Nat.zero_le _, rfl, SameUp.zero _ _, Below.refl _ _⟩
    case round =>
      obtain ⟨j, hj, rfl, hal, hB⟩ := hrel
      have HAL := Lib.hid hal
      clear hal
      by_cases hlt : j < n
      · obtain ⟨b, o, rfl, _, _, hc, _⟩ := at_Entry (l := l) (h.below hB) hlt
        obtain ⟨b', o', rfl, _, _, hc', _⟩ := at_Entry (l := l2) (h2.below hB) hlt
        obtain ⟨P, hP⟩ : ∃ P, l.getD j nEntry = P := ⟨_, rfl⟩
        obtain ⟨Q, hQ⟩ : ∃ Q, l2.getD j nEntry = Q := ⟨_, rfl⟩
        rw [hP] at hc
        rw [hQ] at hc'
        have HP := Lib.hid hP
        have HQ := Lib.hid hQ
        clear hP hQ
        have hltI : (j : Int) < (n : Int) := by omega
        have hwr : Below wr.heap.size wr wr.drew := (Below.refl _ _).drew
        have hB2 := hB.trans (hwr.mono hB.size)
        have z0 := hc.c0
        have z1 := hc.c1
        have z2 := hc.c2
        have z3 := hc.c3
        have z4 := hc.c4
        have u0 := hc'.c0
        have u1 := hc'.c1
        have u2 := hc'.c2
        have u3 := hc'.c3
        have u4 := hc'.c4
        by_cases hq : entQ P Q = true
        · obtain ⟨e0, e1, e2, e3, e4⟩ := eq_valsI.1 hq
          rw [← e0] at u0
          rw [← e1] at u1
          rw [← e2] at u2
          rw [← e3] at u3
          rw [← e4] at u4
          have hal2 := HAL.out.next (by rw [HP.out, HQ.out]; exact hq)
          clear e0 e1 e2 e3 e4 hq hc hc' HP HQ
          go_upto_region 6 with fail
          go_region
          go_wp2
          go_roundw
          case rel => exact ⟨j + 1, by omega, by go_num, hal2, by first | exact hB2 | (exact gbelow_drewN hB 1)⟩
          case measure => simp [Go.RowKit.intOf]; omega
        · have e1 := sameE_no (a := l) (b := l2) (j := j) (by rw [HN.out]; exact hlt) (by rw [HP.out, HQ.out]; exact Bool.eq_false_iff.2 hq)
          rw [HR.out] at e1
          subst e1
          have hne := fun e0 e1 e2 e3 e4 => hq (eq_valsI.2 ⟨e0, e1, e2, e3, e4⟩)
          clear hc hc' HP HQ HR hq
          by_cases e0 : P.f0 = Q.f0
          · skip
            by_cases e1 : P.f1.f0 = Q.f1.f0
            · skip
              by_cases e2 : P.f1.f1 = Q.f1.f1
              · skip
                by_cases e3 : P.f1.f2 = Q.f1.f2
                · skip
                  by_cases e4 : P.f2 = Q.f2
                  · skip
                    exact absurd (hne e0 e1 e2 e3 e4) id
                  · clear hne
                    go_upto_region 6 with fail
                    go_region
                    go_wp2
                    go_ret
                    exact ⟨rfl, by first | exact hB2 | (exact gbelow_drewN hB 1)⟩
                · clear hne
                  go_upto_region 6 with fail
                  go_region
                  go_wp2
                  go_ret
                  exact ⟨rfl, by first | exact hB2 | (exact gbelow_drewN hB 1)⟩
              · clear hne
                go_upto_region 6 with fail
                go_region
                go_wp2
                go_ret
                exact ⟨rfl, by first | exact hB2 | (exact gbelow_drewN hB 1)⟩
            · clear hne
              go_upto_region 6 with fail
              go_region
              go_wp2
              go_ret
              exact ⟨rfl, by first | exact hB2 | (exact gbelow_drewN hB 1)⟩
          · clear hne
            go_upto_region 6 with fail
            go_region
            go_wp2
            go_ret
            exact ⟨rfl, by first | exact hB2 | (exact gbelow_drewN hB 1)⟩
      · have e1 := sameE_end (a := l) (b := l2) (by rw [HN.out, HM.out]) HAL.out (by rw [HN.out]; omega)
        rw [HR.out] at e1
        subst e1
        clear h h2
        go_wp2
        go_ret
        exact ⟨rfl, hB⟩
  · have e1 := sameE_len (a := l) (b := l2) (by rw [HN.out, HM.out]; exact hnm)
    rw [HR.out] at e1
    subst e1
    have hne : ((n : Int) != (m : Int)) = true := by simp; omega
    go_enter Try.func18, Try.ntmps18
    go_wp2
    go_ret
    exact ⟨rfl, Below.refl _ _⟩
set_option maxRecDepth 100000 in
theorem same_impl (x1 y1 x2 y2 : Nat) (w : World) (A : Option Addr) (c : Nat) (l : List TEntry) (A2 : Option Addr) (c2 : Nat) (l2 : List TEntry) (h : Lies x1 y1 w (dEntry l) (.slice A l.length c)) (h2 : Lies x2 y2 w (dEntry l2) (.slice A2 l2.length c2)) (s1 : y1 ≤ w.heap.size) (s2 : y2 ≤ w.heap.size) (hm : l.length ≤ 1048576) (hm2 : l2.length ≤ 1048576) :
    Calls Try.prog 11 #[.slice A l.length c, .slice A2 l2.length c2] w fun e w' => e = .returned (.bool (sameE l l2)) ∧ Below w.heap.size w w' := by
  have hKK := same_any x1 y1 x2 y2 w A c l A2 c2 l2 h h2 s1 s2 hm hm2
  go_enter Try.func11, Try.ntmps11
  go_wp2_with (go_at_call 18; refine (hKK).mono ?_; rintro e w1 ⟨rfl, hb1⟩)
  go_ret
  exact ⟨rfl, hb1⟩
end Go.Proofs.Ytpemjlmopnndbaa.Rec
