/-
  Entries of a recording, the model: which are valid, when two lists have the same ones.
  Conditions: the lists lie in memory, with 2^20 entries at most.
-/
import Derived.Test.YtpemjlmopnndbaaEntMath
import Derived.Test.YtpemjlmopnndbaaScriptS
import Derived.Laws.StructEq
namespace Go.Proofs.Ytpemjlmopnndbaa.Rec
open Go Go.RowKit Go.Proofs.Ytpemjlmopnndbaa.Mem Go.Proofs.Ytpemjlmopnndbaa.Gen Go.Proofs.Ytpemjlmopnndbaa.Scripts
set_option linter.unusedVariables false

theorem ent_of {k h p q v : Int} : entryB ⟨k, ⟨h, p, q⟩, v⟩ = (asksB k && (inR 0 999 v && placeB k h p q)) := rfl
set_option maxHeartbeats 1600000 in
set_option maxRecDepth 100000 in
theorem are_spec (lo hi : Nat) (w : World) (A : Option Addr) (c : Nat) (l : List TEntry) (h : Lies lo hi w (dEntry l) (.slice A l.length c)) (hh : hi ≤ w.heap.size) (hm : l.length ≤ 1048576) :
    Calls Try.prog 6 #[.slice A l.length c] w fun e w' => e = .returned (.bool (entriesB l)) ∧ Below w.heap.size w w' := by
  obtain ⟨n, hn⟩ : ∃ n, l.length = n := ⟨_, rfl⟩
  obtain ⟨r, hr⟩ : ∃ r, entriesB l = r := ⟨_, rfl⟩
  rw [hr]
  rw [hn] at h hm ⊢
  have HN := Lib.hid hn
  have HR := Lib.hid hr
  clear hn hr
  go_enter Try.func6, Try.ntmps6
  go_wp2_with fail
  go_loopw [3] (fun i wr => ∃ j : Nat, j ≤ n ∧ i = .int .i64 j ∧ AllE l j ∧ Below w.heap.size w wr) (fun i _ => n - (Go.RowKit.intOf i).toNat)
  case atStart => exact ⟨0, Nat.zero_le _, rfl, AllE.zero _, Below.refl _ _⟩
  case round =>
    obtain ⟨j, hj, rfl, hal, hB⟩ := hrel
    have HAL := Lib.hid hal
    clear hal
    by_cases hlt : j < n
    · have hlie := h.below hB
      obtain ⟨b, o, rfl, _, _, hc, _⟩ := at_Entry (l := l) hlie hlt
      obtain ⟨P, hP⟩ : ∃ P, l.getD j nEntry = P := ⟨_, rfl⟩
      rw [hP] at hc
      have hent : entryB P = (asksB P.f0 && (inR 0 999 P.f2 && placeB P.f0 P.f1.f0 P.f1.f1 P.f1.f2)) := rfl
      obtain ⟨z0, z1, z2, z3, z4⟩ : wr.cell? ⟨b, o + j * 5, none⟩ = some (.int .i64 P.f0) ∧ wr.cell? ⟨b, o + j * 5 + 1, none⟩ = some (.int .i64 P.f1.f0) ∧ wr.cell? ⟨b, o + j * 5 + 2, none⟩ = some (.int .i64 P.f1.f1) ∧ wr.cell? ⟨b, o + j * 5 + 3, none⟩ = some (.int .i64 P.f1.f2) ∧ wr.cell? ⟨b, o + j * 5 + 4, none⟩ = some (.int .i64 P.f2) := ⟨hc.c0, hc.c1, hc.c2, hc.c3, hc.c4⟩
      obtain ⟨k, hk⟩ : ∃ k, P.f0 = k := ⟨_, rfl⟩
      obtain ⟨v, hv⟩ : ∃ v, P.f2 = v := ⟨_, rfl⟩
      rw [hk] at z0 hent
      rw [hv] at z4 hent
      obtain ⟨W, hW⟩ : ∃ Z, wr.alloc (.cells #[.int .i64 k, .int .i64 P.f1.f0, .int .i64 P.f1.f1, .int .i64 P.f1.f2, .int .i64 v] 33) = Z := ⟨_, rfl⟩
      have hA : Below wr.heap.size wr W := by rw [← hW]; exact (Below.refl _ _).alloc (Nat.le_refl _) _
      have qE : Blk 33 wr.heap.size [.int .i64 k, .int .i64 P.f1.f0, .int .i64 P.f1.f1, .int .i64 P.f1.f2, .int .i64 v] W := by rw [← hW]; exact Blk.new _ [_, _, _, _, _] wr
      have hB2 := hB.trans (hA.mono hB.size)
      obtain ⟨bE, hbE⟩ : ∃ b, wr.heap.size = b := ⟨_, rfl⟩
      rw [hbE] at qE
      have HW := Lib.hid hW
      have HBE := Lib.hid hbE
      have HP := Lib.hid hP
      have kA := fun V => asks_spec k V
      have kI := fun V => l1_is v 0 999 V
      have kD := fun V => Adr.is_spec P.f1.f0 P.f1.f1 P.f1.f2 V
      have hplace : placeB k P.f1.f0 P.f1.f1 P.f1.f2 = if k = 1 then Adr.okA P.f1.f0 P.f1.f1 P.f1.f2 else zeroA P.f1.f0 P.f1.f1 P.f1.f2 := rfl
      obtain ⟨r1, hr1⟩ : ∃ r, asksB k = r := ⟨_, rfl⟩
      obtain ⟨r2, hr2⟩ : ∃ r, inR 0 999 v = r := ⟨_, rfl⟩
      obtain ⟨r3, hr3⟩ : ∃ r, Adr.okA P.f1.f0 P.f1.f1 P.f1.f2 = r := ⟨_, rfl⟩
      simp only [hr1] at kA
      simp only [hr2] at kI
      simp only [hr3] at kD
      rw [hr3] at hplace
      rw [hr1, hr2, hplace] at hent
      have HENT := Lib.hid hent
      clear hr1 hr2 hr3 hplace hent hW hbE hP hc hk hv
      go_upto_region 5 with fail
      rw [HW.out, HBE.out]
      clear z0 z1 z2 z3 z4
      have y0 : W.cell? ⟨bE, 0, none⟩ = some (.int .i64 k) := qE.at rfl
      have y1 : W.cell? ⟨bE, 1, none⟩ = some (.int .i64 P.f1.f0) := qE.at rfl
      have y2 : W.cell? ⟨bE, 2, none⟩ = some (.int .i64 P.f1.f1) := qE.at rfl
      have y3 : W.cell? ⟨bE, 3, none⟩ = some (.int .i64 P.f1.f2) := qE.at rfl
      have y4 : W.cell? ⟨bE, 4, none⟩ = some (.int .i64 v) := qE.at rfl
      go_wp2_with fail
      go_at_call 12
      refine (kA _).mono ?_
      rintro e w2 ⟨rfl, rfl⟩
      cases r1
      · have hf : entryB P = false := by rw [HENT.out]; rfl
        have e1 := entries_no (l := l) (j := j) (by rw [HN.out]; exact hlt) (by rw [HP.out]; exact hf)
        rw [HR.out] at e1
        subst e1
        clear HP HN HR hlie
        go_wp2
        go_ret
        exact ⟨rfl, hB2⟩
      go_wp2_with fail
      go_at_call 13
      refine (kI _).mono ?_
      rintro e w2 ⟨rfl, rfl⟩
      cases r2
      · have hf : entryB P = false := by rw [HENT.out]; rfl
        have e1 := entries_no (l := l) (j := j) (by rw [HN.out]; exact hlt) (by rw [HP.out]; exact hf)
        rw [HR.out] at e1
        subst e1
        clear HP HN HR hlie
        go_wp2
        go_ret
        exact ⟨rfl, hB2⟩
      by_cases hk : k = 1
      · subst hk
        have hf : entryB P = r3 := by rw [HENT.out]; simp
        go_wp2_with fail
        go_at_call 14
        refine (kD _).mono ?_
        rintro e w2 ⟨rfl, hb2⟩
        have hB2 := hB2.trans (hb2.mono hB2.size)
        have qE := qE.below hb2
        clear y0 y1 y2 y3 y4
        have y0 : w2.cell? ⟨bE, 0, none⟩ = some (.int .i64 1) := qE.at rfl
        have y1 : w2.cell? ⟨bE, 1, none⟩ = some (.int .i64 P.f1.f0) := qE.at rfl
        have y2 : w2.cell? ⟨bE, 2, none⟩ = some (.int .i64 P.f1.f1) := qE.at rfl
        have y3 : w2.cell? ⟨bE, 3, none⟩ = some (.int .i64 P.f1.f2) := qE.at rfl
        have y4 : w2.cell? ⟨bE, 4, none⟩ = some (.int .i64 v) := qE.at rfl
        cases r3
        · clear y1 y2 y3 y4
          have e1 := entries_no (l := l) (j := j) (by rw [HN.out]; exact hlt) (by rw [HP.out]; exact hf)
          rw [HR.out] at e1
          subst e1
          clear HP HN HR hlie
          go_wp2
          go_ret
          exact ⟨rfl, hB2⟩
        · clear y1 y2 y3 y4
          have hal2 := HAL.out.next (by rw [HP.out]; exact hf)
          go_wp2
          go_roundw
          case rel => exact ⟨j + 1, by omega, by go_num, hal2, hB2⟩
          case measure => simp [Go.RowKit.intOf]; omega
      · have hk1 : (k == 1) = false := by simpa using hk
        have hk2 : (k != 1) = true := by simpa using hk
        have hf : entryB P = zeroA P.f1.f0 P.f1.f1 P.f1.f2 := by rw [HENT.out, if_neg hk]; rfl
        by_cases hz : P.f1.f0 = 0 ∧ P.f1.f1 = 0 ∧ P.f1.f2 = 0
        · obtain ⟨h1, h2, h3⟩ := hz
          rw [h1] at y1
          rw [h2] at y2
          rw [h3] at y3
          rw [h1, h2, h3] at hf
          replace hf : entryB P = true := hf
          clear h1 h2 h3
          have hal2 := HAL.out.next (by rw [HP.out]; exact hf)
          go_wp2
          go_roundw
          case rel => exact ⟨j + 1, by omega, by go_num, hal2, hB2⟩
          case measure => simp [Go.RowKit.intOf]; omega
        · have hf : entryB P = false := by rw [hf]; exact decide_eq_false hz
          have e1 := entries_no (l := l) (j := j) (by rw [HN.out]; exact hlt) (by rw [HP.out]; exact hf)
          rw [HR.out] at e1
          subst e1
          clear HP HN HR hlie
          go_wp2
          all_goals first
            | (exfalso; exact hz ⟨by assumption, by assumption, by assumption⟩)
            | (go_ret; exact ⟨rfl, hB2⟩)
    · have e1 := entries_end HAL.out (by rw [HN.out]; omega)
      rw [HR.out, HN.out] at e1
      have e2 := hB
      clear h
      go_wp2
      go_ret
      exact ⟨by rw [e1]; rfl, hB⟩

theorem eq_vals {a b : TEntry} : entQ a b = true ↔ (a.f0 = b.f0 ∧ a.f1.f0 = b.f1.f0 ∧ a.f1.f1 = b.f1.f1 ∧ a.f1.f2 = b.f1.f2 ∧ a.f2 = b.f2) := by unfold entQ; simp only [Bool.and_eq_true, beq_iff_eq]

set_option maxHeartbeats 1600000 in
set_option maxRecDepth 100000 in
theorem same_spec (x1 y1 x2 y2 : Nat) (w : World) (A : Option Addr) (c : Nat) (l : List TEntry) (A2 : Option Addr) (c2 : Nat) (l2 : List TEntry) (h : Lies x1 y1 w (dEntry l) (.slice A l.length c)) (h2 : Lies x2 y2 w (dEntry l2) (.slice A2 l2.length c2)) (s1 : y1 ≤ w.heap.size) (s2 : y2 ≤ w.heap.size) (hm : l.length ≤ 1048576) (hm2 : l2.length ≤ 1048576) :
    Calls Try.prog 10 #[.slice A l.length c, .slice A2 l2.length c2] w fun e w' => e = .returned (.bool (sameE l l2)) ∧ Below w.heap.size w w' := by
  obtain ⟨r, hr⟩ : ∃ r, sameE l l2 = r := ⟨_, rfl⟩
  have HR := Lib.hid hr
  rw [hr]
  clear hr
  obtain ⟨n, hn⟩ : ∃ n, l.length = n := ⟨_, rfl⟩
  obtain ⟨m, hm0⟩ : ∃ m, l2.length = m := ⟨_, rfl⟩
  rw [hn] at h hm ⊢
  rw [hm0] at h2 hm2 ⊢
  have HN := Lib.hid hn
  have HM := Lib.hid hm0
  clear hn hm0
  by_cases hnm : n = m
  · subst hnm
    go_enter Try.func10, Try.ntmps10
    go_wp2_with fail
    go_loopw [5] (fun i wr => ∃ j : Nat, j ≤ n ∧ i = .int .i64 j ∧ SameUp l l2 j ∧ Below w.heap.size w wr) (fun i _ => n - (Go.RowKit.intOf i).toNat)
    case atStart => exact ⟨0, Nat.zero_le _, rfl, SameUp.zero _ _, Below.refl _ _⟩
    case round =>
      obtain ⟨j, hj, rfl, hal, hB⟩ := hrel
      have HAL := Lib.hid hal
      clear hal
      by_cases hlt : j < n
      · obtain ⟨b, o, rfl, _, _, hc, _⟩ := at_Entry (l := l) (h.below hB) hlt
        obtain ⟨b', o', rfl, _, _, hc', _⟩ := at_Entry (l := l2) (h2.below hB) hlt
        obtain ⟨P, hP⟩ : ∃ P, l.getD j nEntry = P := ⟨_, rfl⟩
        obtain ⟨Q, hQ⟩ : ∃ Q, l2.getD j nEntry = Q := ⟨_, rfl⟩
        rw [hP] at hc
        rw [hQ] at hc'
        have HP := Lib.hid hP
        have HQ := Lib.hid hQ
        clear hP hQ
        have hltI : (j : Int) < (n : Int) := by omega
        have hwr : Below wr.heap.size wr wr.drew := (Below.refl _ _).drew
        have hB2 := hB.trans (hwr.mono hB.size)
        have z0 := hc.c0
        have z1 := hc.c1
        have z2 := hc.c2
        have z3 := hc.c3
        have z4 := hc.c4
        have u0 := hc'.c0
        have u1 := hc'.c1
        have u2 := hc'.c2
        have u3 := hc'.c3
        have u4 := hc'.c4
        by_cases hq : entQ P Q = true
        · obtain ⟨e0, e1, e2, e3, e4⟩ := eq_vals.1 hq
          rw [← e0] at u0
          rw [← e1] at u1
          rw [← e2] at u2
          rw [← e3] at u3
          rw [← e4] at u4
          have hal2 := HAL.out.next (by rw [HP.out, HQ.out]; exact hq)
          clear e0 e1 e2 e3 e4 hq hc hc' HP HQ
          go_upto_region 6 with fail
          go_region
          go_wp2
          go_roundw
          case rel => exact ⟨j + 1, by omega, by go_num, hal2, by first | exact hB2 | (exact gbelow_drewN hB 1)⟩
          case measure => simp [Go.RowKit.intOf]; omega
        · have e1 := sameE_no (a := l) (b := l2) (j := j) (by rw [HN.out]; exact hlt) (by rw [HP.out, HQ.out]; exact Bool.eq_false_iff.2 hq)
          rw [HR.out] at e1
          subst e1
          have hne := fun e0 e1 e2 e3 e4 => hq (eq_vals.2 ⟨e0, e1, e2, e3, e4⟩)
          clear hc hc' HP HQ HR hq
          by_cases e0 : P.f0 = Q.f0
          · skip
            by_cases e1 : P.f1.f0 = Q.f1.f0
            · skip
              by_cases e2 : P.f1.f1 = Q.f1.f1
              · skip
                by_cases e3 : P.f1.f2 = Q.f1.f2
                · skip
                  by_cases e4 : P.f2 = Q.f2
                  · skip
                    exact absurd (hne e0 e1 e2 e3 e4) id
                  · clear hne
                    go_upto_region 6 with fail
                    go_region
                    go_wp2
                    go_ret
                    exact ⟨rfl, by first | exact hB2 | (exact gbelow_drewN hB 1)⟩
                · clear hne
                  go_upto_region 6 with fail
                  go_region
                  go_wp2
                  go_ret
                  exact ⟨rfl, by first | exact hB2 | (exact gbelow_drewN hB 1)⟩
              · clear hne
                go_upto_region 6 with fail
                go_region
                go_wp2
                go_ret
                exact ⟨rfl, by first | exact hB2 | (exact gbelow_drewN hB 1)⟩
            · clear hne
              go_upto_region 6 with fail
              go_region
              go_wp2
              go_ret
              exact ⟨rfl, by first | exact hB2 | (exact gbelow_drewN hB 1)⟩
          · clear hne
            go_upto_region 6 with fail
            go_region
            go_wp2
            go_ret
            exact ⟨rfl, by first | exact hB2 | (exact gbelow_drewN hB 1)⟩
      · have e1 := sameE_end (a := l) (b := l2) (by rw [HN.out, HM.out]) HAL.out (by rw [HN.out]; omega)
        rw [HR.out] at e1
        subst e1
        clear h h2
        go_wp2
        go_ret
        exact ⟨rfl, hB⟩
  · have e1 := sameE_len (a := l) (b := l2) (by rw [HN.out, HM.out]; exact hnm)
    rw [HR.out] at e1
    subst e1
    have hne : ((n : Int) != (m : Int)) = true := by simp; omega
    go_enter Try.func10, Try.ntmps10
    go_wp2
    go_ret
    exact ⟨rfl, Below.refl _ _⟩
end Go.Proofs.Ytpemjlmopnndbaa.Rec
