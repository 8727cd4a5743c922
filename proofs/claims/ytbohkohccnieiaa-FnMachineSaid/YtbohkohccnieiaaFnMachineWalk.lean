/-
  The law FnMachine returns true, and leaves what was there as it was.
  Conditions: the bytes are in memory; the program's functions do as ImplC says.
-/
import Derived.Test.YtbohkohccnieiaaDrawStep
import Derived.Test.YtbohkohccnieiaaMachC
import Derived.Test.YtbohkohccnieiaaScriptI
import Derived.Deep.CutBlock
namespace Go.Proofs.Ytbohkohccnieiaa.FnMachineW
open Go Go.RowKit Go.Proofs.Ytbohkohccnieiaa.Mem Go.Proofs.Ytbohkohccnieiaa.Gen Go.Proofs.Ytbohkohccnieiaa.Draw Go.Proofs.Ytbohkohccnieiaa.Scripts Go.Proofs.Ytbohkohccnieiaa.Mach
set_option linter.unusedVariables false

theorem given_st {w w' : World} {R : TState} {e : Ending} (h : GivenS w R e w') : ∃ (x1 : Option Addr) (y1 : Nat) (x2 : Option Addr) (y2 : Nat) (x3 : Option Addr) (y3 : Nat), e = .returned (.agg #[.int .i64 R.f0, .slice x1 R.f1.length y1, .slice x2 R.f2.length y2, .slice x3 R.f3.length y3]) ∧ St w' R x1 y1 x2 y2 x3 y3 ∧ Below w.heap.size w w' := by
  obtain ⟨x1, y1, S1, x2, y2, S2, x3, y3, S3, rfl, o1, o2, o3, u1, u2, u3, _, _, _, hb⟩ := h
  exact ⟨x1, y1, x2, y2, x3, y3, rfl, ⟨o1.lies fun t h => ⟨Nat.zero_le _, (u1 t h).2⟩, o2.lies fun t h => ⟨Nat.zero_le _, (u2 t h).2⟩, o3.lies fun t h => ⟨Nat.zero_le _, (u3 t h).2⟩⟩, hb⟩

set_option maxHeartbeats 8000000 in
set_option maxRecDepth 100000 in
theorem law_walk (KC : ImplC) (a : Option Addr) (n c : Nat) (w : World) (hb0 : Bytes w.heap.size w a n) :
    Calls Try.prog 3 #[.slice a n c] w fun e w' => e = .returned (.bool true) ∧ Below w.heap.size w w' := by
  have hn0 := hb0.1
  by_cases hbig : 1048576 < n
  · go_enter Try.func3, Try.ntmps3
    go_wp2
    go_ret
    exact ⟨rfl, Below.refl _ _⟩
  go_enter Try.func3, Try.ntmps3
  go_wp2_with (go_at_call 10; go_in)
  go_at_call 11
  refine (draw_step _ a n c _ hb0 (Nat.le_refl _)).mono ?_
  rintro e w1 ⟨L, cl, l, S, a1, c1, a2, c2, a3, c3, v, rfl, hL, hS, hl17, hle, hwf, hwv, hb1⟩
  have hs1 : S.f1.length ≤ 1048576 := by omega
  have hs2 : S.f2.length ≤ 1048576 := by omega
  have hs3 : S.f3.length ≤ 1048576 := by omega
  have hl20 : l.length ≤ 1048576 := by omega
  obtain ⟨W1, hW1⟩ : ∃ V, w1.alloc (.cells #[.int .i64 S.f0, .slice a1 S.f1.length c1, .slice a2 S.f2.length c2, .slice a3 S.f3.length c3] 27) = V := ⟨_, rfl⟩
  have hA : Below w1.heap.size w1 W1 := by rw [← hW1]; exact (Below.refl _ _).alloc (Nat.le_refl _) _
  have qS : Blk 27 w1.heap.size [.int .i64 S.f0, .slice a1 S.f1.length c1, .slice a2 S.f2.length c2, .slice a3 S.f3.length c3] W1 := by rw [← hW1]; exact Blk.new _ [_, _, _, _] w1
  obtain ⟨bS, hbS⟩ : ∃ b, w1.heap.size = b := ⟨_, rfl⟩
  rw [hbS] at qS
  have HW1 := Lib.hid hW1
  have HbS := Lib.hid hbS
  clear hW1 hbS
  have hS := hS.below hA
  have hL := (hL.below hA).more (Nat.zero_le _) hA.size
  have hB1 := hb1.trans (hA.mono hb1.size)
  have hStep := fun (V : World) (hb : Below W1.heap.size W1 V) (u : Int) => KC.step 0 W1.heap.size V L cl l (hL.below hb) hb.size hl20 S a1 c1 a2 c2 a3 c3 (hS.below hb) hs1 hs2 hs3 hwf u
  have hWant := fun (V : World) (hb : Below W1.heap.size W1 V) => KC.want 0 W1.heap.size V L cl l (hL.below hb) hb.size hl20 S a1 c1 a2 c2 a3 c3 (hS.below hb) hs1 hs2 hs3
  have hScr := fun (V : World) (hb : Below W1.heap.size W1 V) => script_impl 0 W1.heap.size V L cl l (hL.below hb) hb.size hl20
  have hSta := fun (V : World) (hb : Below W1.heap.size W1 V) => KC.state S V a1 c1 a2 c2 a3 c3 (hS.below hb) hs1 hs2 hs3
  have hDon := fun (V : World) (hb : Below W1.heap.size W1 V) => KC.done 0 W1.heap.size V L cl l (hL.below hb) hb.size hl20 S a1 c1 a2 c2 a3 c3 (hS.below hb) hs1 hs2 hs3
  have hEqS := fun (V : World) (hb : Below W1.heap.size W1 V) => KC.equal S S V a1 c1 a2 c2 a3 c3 a1 c1 a2 c2 a3 c3 (hS.below hb) (hS.below hb) hs1 hs2 hs3 hs1 hs2 hs3
  have hYes := fun h => step_yes (l := l) (S := S) h v
  have hNo := fun h => step_no (l := l) (S := S) h v
  have hWY := want_yes (l := l) (S := S)
  have hWN := want_no (l := l) (S := S)
  have hCan : canB l S = (scriptB l && (stateB S && decide (S.f0 < (l.length : Int)))) := rfl
  have hDon2 : doneB l S = decide ((l.length : Int) ≤ S.f0) := rfl
  obtain ⟨hr1, hr2, hr3⟩ := step_len l S v
  have htb := fun (h : stateB S = true) => (state_at h).2.2.2
  have hu := fun u => step_len l S u
  have hSt0 := hStep W1 (Below.refl _ _) v
  obtain ⟨R, hR⟩ : ∃ R, Mach.step l S v = R := ⟨_, rfl⟩
  obtain ⟨Q, hQ⟩ : ∃ Q, wantOf l S = Q := ⟨_, rfl⟩
  obtain ⟨sB, hsB⟩ : ∃ b, scriptB l = b := ⟨_, rfl⟩
  obtain ⟨tB, htB⟩ : ∃ b, stateB S = b := ⟨_, rfl⟩
  obtain ⟨dB, hdB⟩ : ∃ b, doneB l S = b := ⟨_, rfl⟩
  obtain ⟨cB, hcB⟩ : ∃ b, canB l S = b := ⟨_, rfl⟩
  obtain ⟨N, hN⟩ : ∃ N, l.length = N := ⟨_, rfl⟩
  rw [hR] at hYes hNo hr1 hr2 hr3 hSt0
  rw [hQ] at hWN
  rw [hQ] at hWY
  simp only [hQ] at hWant
  simp only [hsB] at hScr
  simp only [htB] at hSta
  simp only [hdB] at hDon
  rw [hcB, hsB, htB, hN] at hCan
  rw [htB] at htb
  have HTB := Lib.hid htb
  rw [hdB, hN] at hDon2
  rw [hcB] at hYes hNo hWY hWN
  simp only [hN] at hStep hWant hScr hDon hSt0
  simp only [hN]
  have HN := Lib.hid hN
  have HU := Lib.hid hu
  have HRE := Lib.hid hR
  have hR1 : R.f1.length ≤ 1048576 := by omega
  have hR2 : R.f2.length ≤ 1048576 := by omega
  have hR3 : R.f3.length ≤ 1048576 := by omega
  clear htb hr1 hr2 hr3 hu hR hQ hsB htB hdB hcB hN hb1
  go_upto_region 4 with fail
  rw [HW1.out, HbS.out]
  obtain ⟨s0, s1, s2, s3⟩ : W1.cell? ⟨bS, 0, none⟩ = some (.int .i64 S.f0) ∧ W1.cell? ⟨bS, 1, none⟩ = some (.slice a1 S.f1.length c1) ∧ W1.cell? ⟨bS, 2, none⟩ = some (.slice a2 S.f2.length c2) ∧ W1.cell? ⟨bS, 3, none⟩ = some (.slice a3 S.f3.length c3) := ⟨qS.at rfl, qS.at rfl, qS.at rfl, qS.at rfl⟩
  go_wp2_with fail
  go_at_call 12
  refine hSt0.mono ?_
  intro e w2 hg
  obtain ⟨x1, y1, x2, y2, x3, y3, rfl, hR, hb2⟩ := given_st hg
  clear hg hSt0 s0 s1 s2 s3
  have qS := qS.below hb2
  obtain ⟨W2, hW2⟩ : ∃ V, w2.alloc (.cells #[.int .i64 R.f0, .slice x1 R.f1.length y1, .slice x2 R.f2.length y2, .slice x3 R.f3.length y3] 27) = V := ⟨_, rfl⟩
  have hA : Below w2.heap.size w2 W2 := by rw [← hW2]; exact (Below.refl _ _).alloc (Nat.le_refl _) _
  have qR : Blk 27 w2.heap.size [.int .i64 R.f0, .slice x1 R.f1.length y1, .slice x2 R.f2.length y2, .slice x3 R.f3.length y3] W2 := by rw [← hW2]; exact Blk.new _ [_, _, _, _] w2
  obtain ⟨bR, hbR⟩ : ∃ b, w2.heap.size = b := ⟨_, rfl⟩
  rw [hbR] at qR
  have HW2 := Lib.hid hW2
  have HbR := Lib.hid hbR
  clear hW2 hbR
  have qS := qS.below hA
  have hR := hR.below hA
  have hB2 := hb2.trans (hA.mono hb2.size)
  have hWa := hWant W2 hB2
  go_upto_region 5 with fail
  rw [HW2.out, HbR.out]
  obtain ⟨s0, s1, s2, s3⟩ : W2.cell? ⟨bS, 0, none⟩ = some (.int .i64 S.f0) ∧ W2.cell? ⟨bS, 1, none⟩ = some (.slice a1 S.f1.length c1) ∧ W2.cell? ⟨bS, 2, none⟩ = some (.slice a2 S.f2.length c2) ∧ W2.cell? ⟨bS, 3, none⟩ = some (.slice a3 S.f3.length c3) := ⟨qS.at rfl, qS.at rfl, qS.at rfl, qS.at rfl⟩
  go_wp2_with fail
  go_at_call 13
  refine hWa.mono ?_
  rintro e w3 ⟨rfl, hb3⟩
  clear hWa hWant s0 s1 s2 s3
  have qS := qS.below hb3
  have qR := qR.below hb3
  have hR := hR.below hb3
  obtain ⟨W3, hW3⟩ : ∃ V, w3.alloc (.cells #[.int .i64 Q.f0, .int .i64 Q.f1.f0, .int .i64 Q.f1.f1, .int .i64 Q.f1.f2] 34) = V := ⟨_, rfl⟩
  have hA : Below w3.heap.size w3 W3 := by rw [← hW3]; exact (Below.refl _ _).alloc (Nat.le_refl _) _
  have qQ : Blk 34 w3.heap.size [.int .i64 Q.f0, .int .i64 Q.f1.f0, .int .i64 Q.f1.f1, .int .i64 Q.f1.f2] W3 := by rw [← hW3]; exact Blk.new _ [_, _, _, _] w3
  obtain ⟨bQ, hbQ⟩ : ∃ b, w3.heap.size = b := ⟨_, rfl⟩
  rw [hbQ] at qQ
  have HW3 := Lib.hid hW3
  have HbQ := Lib.hid hbQ
  clear hW3 hbQ
  have qS := qS.below hA
  have qR := qR.below hA
  have hR := hR.below hA
  have hB3 := hB2.trans ((hb3.trans (hA.mono hb3.size)).mono hB2.size)
  have hBW := hB1.trans (hB3.mono hB1.size)
  clear hb2 hb3 hA hB2 hB1
  go_upto_region 6 with fail
  rw [HW3.out, HbQ.out]
  have HDN := Lib.hid hDon2
  clear hDon2
  have Q0 := Lib.hid qS
  cases cB
  · obtain rfl := hNo rfl
    obtain rfl := hWN rfl
    clear hNo hWN hYes hWY
    go_cut [35] (fun s wx => s = .bool true ∧ Below W3.heap.size W3 wx)
    case first =>
      clear hStep hEqS
      cases sB
      · clear hDon hSta hCan
        go_wp2_with fail
        go_at_call 14
        refine (hScr _ hB3).mono ?_
        rintro e w4 ⟨rfl, hb4⟩
        go_wp2_with fail
        go_meet
        case rel => exact ⟨rfl, hb4⟩
      · cases tB
        · clear hDon hCan
          go_wp2_with fail
          go_at_call 14
          refine (hScr _ hB3).mono ?_
          rintro e w4 ⟨rfl, hb4⟩
          have qS := qS.below hb4
          have hB4 := hB3.trans (hb4.mono hB3.size)
          obtain ⟨s0, s1, s2, s3⟩ : w4.cell? ⟨bS, 0, none⟩ = some (.int .i64 R.f0) ∧ w4.cell? ⟨bS, 1, none⟩ = some (.slice a1 R.f1.length c1) ∧ w4.cell? ⟨bS, 2, none⟩ = some (.slice a2 R.f2.length c2) ∧ w4.cell? ⟨bS, 3, none⟩ = some (.slice a3 R.f3.length c3) := ⟨qS.at rfl, qS.at rfl, qS.at rfl, qS.at rfl⟩
          go_wp2_with fail
          go_at_call 15
          refine (hSta _ hB4).mono ?_
          rintro e w5 ⟨rfl, hb5⟩
          have hb5 := hb4.trans (hb5.mono hb4.size)
          clear s0 s1 s2 s3
          go_wp2_with fail
          go_meet
          case rel => exact ⟨rfl, hb5⟩
        · have hlt : dB = true := by
            rw [HDN.out]
            simp only [Bool.true_and] at hCan
            rw [decide_eq_true_eq]
            have := of_decide_eq_false hCan.symm
            omega
          subst hlt
          clear hCan
          go_wp2_with fail
          go_at_call 14
          refine (hScr _ hB3).mono ?_
          rintro e w4 ⟨rfl, hb4⟩
          have qS := qS.below hb4
          have hB4 := hB3.trans (hb4.mono hB3.size)
          obtain ⟨s0, s1, s2, s3⟩ : w4.cell? ⟨bS, 0, none⟩ = some (.int .i64 R.f0) ∧ w4.cell? ⟨bS, 1, none⟩ = some (.slice a1 R.f1.length c1) ∧ w4.cell? ⟨bS, 2, none⟩ = some (.slice a2 R.f2.length c2) ∧ w4.cell? ⟨bS, 3, none⟩ = some (.slice a3 R.f3.length c3) := ⟨qS.at rfl, qS.at rfl, qS.at rfl, qS.at rfl⟩
          go_wp2_with fail
          go_at_call 15
          refine (hSta _ hB4).mono ?_
          rintro e w5 ⟨rfl, hb5⟩
          have hb5 := hb4.trans (hb5.mono hb4.size)
          clear s0 s1 s2 s3
          have qS := (Blk.below (show Blk 27 bS [.int .i64 R.f0, .slice a1 R.f1.length c1, .slice a2 R.f2.length c2, .slice a3 R.f3.length c3] W3 from Q0.out) hb5)
          have hB5 := hB3.trans (hb5.mono hB3.size)
          obtain ⟨s0, s1, s2, s3⟩ : w5.cell? ⟨bS, 0, none⟩ = some (.int .i64 R.f0) ∧ w5.cell? ⟨bS, 1, none⟩ = some (.slice a1 R.f1.length c1) ∧ w5.cell? ⟨bS, 2, none⟩ = some (.slice a2 R.f2.length c2) ∧ w5.cell? ⟨bS, 3, none⟩ = some (.slice a3 R.f3.length c3) := ⟨qS.at rfl, qS.at rfl, qS.at rfl, qS.at rfl⟩
          go_wp2_with fail
          go_at_call 16
          refine (hDon _ hB5).mono ?_
          rintro e w6 ⟨rfl, hb6⟩
          have hb6 := hb5.trans (hb6.mono hb5.size)
          go_wp2_with fail
          go_meet
          case rel => exact ⟨rfl, hb6⟩
    case rest =>
      obtain ⟨rfl, hb4⟩ := hcut
      clear hScr hSta hDon hStep hCan
      have qS := qS.below hb4
      have qR := qR.below hb4
      have qQ := qQ.below hb4
      have hR := hR.below hb4
      have hB4 := hB3.trans (hb4.mono hB3.size)
      have hBW := hBW.trans (hb4.mono hBW.size)

      have hE := KC.equal R R wc x1 y1 x2 y2 x3 y3 a1 c1 a2 c2 a3 c3 hR (hS.below hB4) hR1 hR2 hR3 hs1 hs2 hs3
      rw [same_refl] at hE
      clear hEqS
      obtain ⟨r0, r1, r2, r3⟩ : wc.cell? ⟨bR, 0, none⟩ = some (.int .i64 R.f0) ∧ wc.cell? ⟨bR, 1, none⟩ = some (.slice x1 R.f1.length y1) ∧ wc.cell? ⟨bR, 2, none⟩ = some (.slice x2 R.f2.length y2) ∧ wc.cell? ⟨bR, 3, none⟩ = some (.slice x3 R.f3.length y3) := ⟨qR.at rfl, qR.at rfl, qR.at rfl, qR.at rfl⟩
      obtain ⟨s0, s1, s2, s3⟩ : wc.cell? ⟨bS, 0, none⟩ = some (.int .i64 R.f0) ∧ wc.cell? ⟨bS, 1, none⟩ = some (.slice a1 R.f1.length c1) ∧ wc.cell? ⟨bS, 2, none⟩ = some (.slice a2 R.f2.length c2) ∧ wc.cell? ⟨bS, 3, none⟩ = some (.slice a3 R.f3.length c3) := ⟨qS.at rfl, qS.at rfl, qS.at rfl, qS.at rfl⟩
      go_wp2_with fail
      go_at_call 17
      refine (hE).mono ?_
      rintro e w7 ⟨rfl, hb7⟩
      have q0 : w7.cell? ⟨bQ, 0, none⟩ = some (.int .i64 0) := (qQ.below hb7).at rfl
      have hBF := hBW.trans (hb7.mono hBW.size)
      go_wp2
      go_ret
      exact ⟨rfl, hBF⟩
  · have hk : sB = true ∧ tB = true ∧ S.f0 < (N : Int) := by
      have := hCan.symm
      simp only [Bool.and_eq_true, decide_eq_true_eq] at this
      exact this
    obtain ⟨rfl, rfl, hlt⟩ := hk
    have hdb : dB = false := by rw [HDN.out]; exact decide_eq_false (by omega)
    subst hdb
    obtain ⟨hsR, hgt, hle4⟩ := hYes rfl
    have HWY := Lib.hid (hWY rfl)
    have hf0 := HTB.out rfl
    clear hCan hNo hWN hYes hWY
    go_cut [35] (fun s wx => s = .bool false ∧ Below W3.heap.size W3 wx)
    case first =>
      clear hStep hEqS
      go_wp2_with fail
      go_at_call 14
      refine (hScr _ hB3).mono ?_
      rintro e w4 ⟨rfl, hb4⟩
      have qS := qS.below hb4
      have hB4 := hB3.trans (hb4.mono hB3.size)
      obtain ⟨s0, s1, s2, s3⟩ : w4.cell? ⟨bS, 0, none⟩ = some (.int .i64 S.f0) ∧ w4.cell? ⟨bS, 1, none⟩ = some (.slice a1 S.f1.length c1) ∧ w4.cell? ⟨bS, 2, none⟩ = some (.slice a2 S.f2.length c2) ∧ w4.cell? ⟨bS, 3, none⟩ = some (.slice a3 S.f3.length c3) := ⟨qS.at rfl, qS.at rfl, qS.at rfl, qS.at rfl⟩
      go_wp2_with fail
      go_at_call 15
      refine (hSta _ hB4).mono ?_
      rintro e w5 ⟨rfl, hb5⟩
      have hb5 := hb4.trans (hb5.mono hb4.size)
      clear s0 s1 s2 s3
      have qS := (Blk.below (show Blk 27 bS [.int .i64 S.f0, .slice a1 S.f1.length c1, .slice a2 S.f2.length c2, .slice a3 S.f3.length c3] W3 from Q0.out) hb5)
      have hB5 := hB3.trans (hb5.mono hB3.size)
      obtain ⟨s0, s1, s2, s3⟩ : w5.cell? ⟨bS, 0, none⟩ = some (.int .i64 S.f0) ∧ w5.cell? ⟨bS, 1, none⟩ = some (.slice a1 S.f1.length c1) ∧ w5.cell? ⟨bS, 2, none⟩ = some (.slice a2 S.f2.length c2) ∧ w5.cell? ⟨bS, 3, none⟩ = some (.slice a3 S.f3.length c3) := ⟨qS.at rfl, qS.at rfl, qS.at rfl, qS.at rfl⟩
      go_wp2_with fail
      go_at_call 16
      refine (hDon _ hB5).mono ?_
      rintro e w6 ⟨rfl, hb6⟩
      have hb6 := hb5.trans (hb6.mono hb5.size)
      go_wp2_with fail
      go_meet
      case rel => exact ⟨rfl, hb6⟩
    case rest =>
      obtain ⟨rfl, hb4⟩ := hcut
      clear hScr hSta hDon
      have qS := qS.below hb4
      have qR := qR.below hb4
      have qQ := qQ.below hb4
      have hR := hR.below hb4
      have hB4 := hB3.trans (hb4.mono hB3.size)
      have hBW := hBW.trans (hb4.mono hBW.size)
      have hStR := KC.state R wc x1 y1 x2 y2 x3 y3 hR hR1 hR2 hR3
      rw [hsR] at hStR
      have hd1 : decide (R.f0 ≤ S.f0) = false := decide_eq_false (by omega)
      have hd2 : decide (S.f0 + 4 < R.f0) = false := decide_eq_false (by omega)
      have hd3 : decide (R.f0 > S.f0 + 4) = false := decide_eq_false (by omega)
      go_upto_region 8 with fail
      go_cut [61] (fun s wx => s = .bool false ∧ Below wc.heap.size wc wx)
      case first =>
        obtain ⟨r0, r1, r2, r3⟩ : wc.cell? ⟨bR, 0, none⟩ = some (.int .i64 R.f0) ∧ wc.cell? ⟨bR, 1, none⟩ = some (.slice x1 R.f1.length y1) ∧ wc.cell? ⟨bR, 2, none⟩ = some (.slice x2 R.f2.length y2) ∧ wc.cell? ⟨bR, 3, none⟩ = some (.slice x3 R.f3.length y3) := ⟨qR.at rfl, qR.at rfl, qR.at rfl, qR.at rfl⟩
        go_wp2_with fail
        go_at_call 15
        refine (hStR).mono ?_
        rintro e w5 ⟨rfl, hb5⟩
        have r0 : w5.cell? ⟨bR, 0, none⟩ = some (.int .i64 R.f0) := (qR.below hb5).at rfl
        have s0 : w5.cell? ⟨bS, 0, none⟩ = some (.int .i64 S.f0) := (qS.below hb5).at rfl
        go_wp2_with fail
        go_meet
        case rel => exact ⟨rfl, hb5⟩
      case rest =>
        obtain ⟨rfl, hb5⟩ := hcut

        have qS := qS.below hb5
        have qR := qR.below hb5
        have qQ := qQ.below hb5
        have hR := hR.below hb5
        have hB5 := hB4.trans (hb5.mono hB4.size)
        have hBW := hBW.trans (hb5.mono hBW.size)
        obtain ⟨kq, ⟨qa, qb, qc⟩⟩ := Q
        have hwy := HWY.out
        dsimp only at qQ hwy
        clear hStR hd1 hd2 hd3 HWY HDN HTB
        go_upto_region 10 with fail
        go_cut [94] (fun s wx => s = .bool false ∧ Below wc.heap.size wc wx)
        case first =>
          obtain ⟨Wd, hWd⟩ : ∃ Wd, wc.drew = Wd := ⟨_, rfl⟩
          have hbd : Below wc.heap.size wc Wd := by rw [← hWd]; exact (Below.refl _ _).drew
          have qSd := qS.below hbd
          have qRd := qR.below hbd
          have qQd := qQ.below hbd
          have hRd := hR.below hbd
          have hBd := hB5.trans (hbd.mono hB5.size)
          clear hEqS
          rcases hwy with ⟨rfl, hst⟩ | ⟨hz1, hz4, hadr⟩
          · have h7 : Mach.step l S 7 = R := (hst 7 v).trans HRE.out
            have hS7 := hStep Wd hBd 7
            rw [h7] at hS7
            clear hst h7 hStep
            refine wp_region_held_drew (S := (fun w' => w'.cell? ⟨bS, 0, none⟩ = some (.int .i64 S.f0) ∧ w'.cell? ⟨bS, 1, none⟩ = some (.slice a1 S.f1.length c1) ∧ w'.cell? ⟨bS, 2, none⟩ = some (.slice a2 S.f2.length c2) ∧ w'.cell? ⟨bS, 3, none⟩ = some (.slice a3 S.f3.length c3) ∧ w'.cell? ⟨bR, 0, none⟩ = some (.int .i64 R.f0) ∧ w'.cell? ⟨bR, 1, none⟩ = some (.slice x1 R.f1.length y1) ∧ w'.cell? ⟨bR, 2, none⟩ = some (.slice x2 R.f2.length y2) ∧ w'.cell? ⟨bR, 3, none⟩ = some (.slice x3 R.f3.length y3) ∧ w'.cell? ⟨bQ, 0, none⟩ = some (.int .i64 0) ∧ w'.cell? ⟨bQ, 1, none⟩ = some (.int .i64 qa) ∧ w'.cell? ⟨bQ, 2, none⟩ = some (.int .i64 qb) ∧ w'.cell? ⟨bQ, 3, none⟩ = some (.int .i64 qc))) (by kernel_rfl) (by rw [hWd]; exact ⟨qSd.at rfl, qSd.at rfl, qSd.at rfl, qSd.at rfl, qRd.at rfl, qRd.at rfl, qRd.at rfl, qRd.at rfl, qQd.at rfl, qQd.at rfl, qQd.at rfl, qQd.at rfl⟩) (fun hHeld => ?_)
            rw [hWd] at hHeld ⊢
            refine wpAnyH_take (i := 0) (v := ?va0) (List.getElem?_toArray.trans rfl) (by kernel_rfl) (by kernel_rfl) (by kernel_rfl) (fun _ _ _ h => h) (Or.inl ⟨by rfl, ?ya0⟩) (by assumption) ?ra0
            case ya0 => (intro w hSw; (try dsimp only at hSw); go_simp; try with_reducible rfl)
            try simp only [Act.put, List.setIfInBounds_toArray, List.set_cons_zero, List.set_cons_succ]
            refine wpAnyH_take (i := 1) (v := .int .i64 0) (List.getElem?_toArray.trans rfl) (by kernel_rfl) (by kernel_rfl) (by kernel_rfl) (fun _ _ _ h => h) (Or.inl ⟨by rfl, ?ya1⟩) (by assumption) ?ra1
            case ya1 => (intro w hSw; (try dsimp only at hSw); go_simp; try simp [hSw])
            try simp only [Act.put, List.setIfInBounds_toArray, List.set_cons_zero, List.set_cons_succ]
            refine wpAnyH_take (i := 2) (v := .bool true) (List.getElem?_toArray.trans rfl) (by kernel_rfl) (by kernel_rfl) (by kernel_rfl) (fun _ _ _ h => h) (Or.inl ⟨by rfl, ?ya2⟩) (by assumption) ?ra2
            case ya2 => (intro w hSw; (try dsimp only at hSw); go_simp; try simp [hSw])
            try simp only [Act.put, List.setIfInBounds_toArray, List.set_cons_zero, List.set_cons_succ]
            refine wpAnyH_take (i := 3) (v := ?va3) (List.getElem?_toArray.trans rfl) (by kernel_rfl) (by kernel_rfl) (by kernel_rfl) (fun _ _ _ h => h) (Or.inl ⟨by rfl, ?ya3⟩) (by assumption) ?ra3
            case ya3 => (intro w hSw; (try dsimp only at hSw); go_simp; try with_reducible rfl)
            try simp only [Act.put, List.setIfInBounds_toArray, List.set_cons_zero, List.set_cons_succ]
            refine wpAnyH_take (i := 4) (v := .agg #[.int .i64 R.f0, .slice x1 R.f1.length y1, .slice x2 R.f2.length y2, .slice x3 R.f3.length y3]) (List.getElem?_toArray.trans rfl) (by kernel_rfl) (by kernel_rfl) (by kernel_rfl) (fun _ _ _ h => h) (Or.inl ⟨by rfl, ?ya4⟩) (by assumption) ?ra4
            case ya4 => (intro w hSw; (try dsimp only at hSw); go_simp; try simp [hSw])
            try simp only [Act.put, List.setIfInBounds_toArray, List.set_cons_zero, List.set_cons_succ]
            refine wpAnyH_take (i := 5) (v := ?va5) (List.getElem?_toArray.trans rfl) (by kernel_rfl) (by kernel_rfl) (by kernel_rfl) (fun _ _ _ h => h) (Or.inl ⟨by rfl, ?ya5⟩) (by assumption) ?ra5
            case ya5 => (intro w hSw; (try dsimp only at hSw); go_simp; try with_reducible rfl)
            try simp only [Act.put, List.setIfInBounds_toArray, List.set_cons_zero, List.set_cons_succ]
            refine wpAnyH_take (i := 6) (v := .agg #[.int .i64 S.f0, .slice a1 S.f1.length c1, .slice a2 S.f2.length c2, .slice a3 S.f3.length c3]) (List.getElem?_toArray.trans rfl) (by kernel_rfl) (by kernel_rfl) (by kernel_rfl) (fun _ _ _ h => h) (Or.inl ⟨by rfl, ?ya6⟩) (by assumption) ?ra6
            case ya6 => (intro w hSw; (try dsimp only at hSw); go_simp; try simp [hSw])
            try simp only [Act.put, List.setIfInBounds_toArray, List.set_cons_zero, List.set_cons_succ]
            refine wpAnyH_ready (rs := [7]) (by kernel_rfl) (by simp) ?_
            refine AllReadyH.cons (List.getElem?_toArray.trans rfl) (fun K hK => ?_) AllReadyH.nil
            go_simp
            go_at_call 12
            refine hS7.mono ?_
            intro e w6 hg
            obtain ⟨z1, t1, z2, t2, z3, t3, rfl, hG, hb6⟩ := given_st hg
            clear hg
            have hRd := St.below (w := Wd) hRd hb6
            have qSd := Blk.below (w := Wd) qSd hb6
            have qRd := Blk.below (w := Wd) qRd hb6
            have qQd := Blk.below (w := Wd) qQd hb6
            have hbd := Below.trans (b := Wd) hbd (Below.mono (w := Wd) hb6 hbd.size)
            have s9 : w6.cell? ⟨bS, 0, none⟩ = some (.int .i64 S.f0) ∧ w6.cell? ⟨bS, 1, none⟩ = some (.slice a1 S.f1.length c1) ∧ w6.cell? ⟨bS, 2, none⟩ = some (.slice a2 S.f2.length c2) ∧ w6.cell? ⟨bS, 3, none⟩ = some (.slice a3 S.f3.length c3) ∧ w6.cell? ⟨bR, 0, none⟩ = some (.int .i64 R.f0) ∧ w6.cell? ⟨bR, 1, none⟩ = some (.slice x1 R.f1.length y1) ∧ w6.cell? ⟨bR, 2, none⟩ = some (.slice x2 R.f2.length y2) ∧ w6.cell? ⟨bR, 3, none⟩ = some (.slice x3 R.f3.length y3) ∧ w6.cell? ⟨bQ, 0, none⟩ = some (.int .i64 0) ∧ w6.cell? ⟨bQ, 1, none⟩ = some (.int .i64 qa) ∧ w6.cell? ⟨bQ, 2, none⟩ = some (.int .i64 qb) ∧ w6.cell? ⟨bQ, 3, none⟩ = some (.int .i64 qc) := ⟨qSd.at rfl, qSd.at rfl, qSd.at rfl, qSd.at rfl, qRd.at rfl, qRd.at rfl, qRd.at rfl, qRd.at rfl, qQd.at rfl, qQd.at rfl, qQd.at rfl, qQd.at rfl⟩
            refine hK.out _ _ s9 (fun hHeld => ?_)
            clear hK K
            try simp only [Act.put, List.setIfInBounds_toArray, List.set_cons_zero, List.set_cons_succ]
            refine wpAnyH_ready (rs := [8]) (by kernel_rfl) (by simp) ?_
            refine AllReadyH.cons (List.getElem?_toArray.trans rfl) (fun K hK => ?_) AllReadyH.nil
            go_simp
            go_at_call 17
            refine (show Calls _ _ _ _ (fun e w' => e = .returned (.bool true) ∧ Below w6.heap.size w6 w') from (same_refl R) ▸ KC.equal R R w6 x1 y1 x2 y2 x3 y3 z1 t1 z2 t2 z3 t3 hRd hG hR1 hR2 hR3 hR1 hR2 hR3).mono ?_
            rintro e w7 ⟨rfl, hb7⟩
            have qSd := Blk.below (w := w6) qSd hb7
            have qRd := Blk.below (w := w6) qRd hb7
            have qQd := Blk.below (w := w6) qQd hb7
            have hbd := Below.trans (b := w6) hbd (Below.mono (w := w6) hb7 hbd.size)
            have s9 : w7.cell? ⟨bS, 0, none⟩ = some (.int .i64 S.f0) ∧ w7.cell? ⟨bS, 1, none⟩ = some (.slice a1 S.f1.length c1) ∧ w7.cell? ⟨bS, 2, none⟩ = some (.slice a2 S.f2.length c2) ∧ w7.cell? ⟨bS, 3, none⟩ = some (.slice a3 S.f3.length c3) ∧ w7.cell? ⟨bR, 0, none⟩ = some (.int .i64 R.f0) ∧ w7.cell? ⟨bR, 1, none⟩ = some (.slice x1 R.f1.length y1) ∧ w7.cell? ⟨bR, 2, none⟩ = some (.slice x2 R.f2.length y2) ∧ w7.cell? ⟨bR, 3, none⟩ = some (.slice x3 R.f3.length y3) ∧ w7.cell? ⟨bQ, 0, none⟩ = some (.int .i64 0) ∧ w7.cell? ⟨bQ, 1, none⟩ = some (.int .i64 qa) ∧ w7.cell? ⟨bQ, 2, none⟩ = some (.int .i64 qb) ∧ w7.cell? ⟨bQ, 3, none⟩ = some (.int .i64 qc) := ⟨qSd.at rfl, qSd.at rfl, qSd.at rfl, qSd.at rfl, qRd.at rfl, qRd.at rfl, qRd.at rfl, qRd.at rfl, qQd.at rfl, qQd.at rfl, qQd.at rfl, qQd.at rfl⟩
            refine hK.out _ _ s9 (fun hHeld => ?_)
            clear hK K
            try simp only [Act.put, List.setIfInBounds_toArray, List.set_cons_zero, List.set_cons_succ]
            refine wpAnyH_take (i := 9) (v := ?va9) (List.getElem?_toArray.trans rfl) (by kernel_rfl) (by kernel_rfl) (by kernel_rfl) (fun _ _ _ h => h) (Or.inl ⟨by rfl, ?ya9⟩) (by assumption) ?ra9
            case ya9 => (intro w hSw; (try dsimp only at hSw); go_simp; try with_reducible rfl)
            try simp only [Act.put, List.setIfInBounds_toArray, List.set_cons_zero, List.set_cons_succ]
            refine wpAnyH_take (i := 10) (v := ?va10) (List.getElem?_toArray.trans rfl) (by kernel_rfl) (by kernel_rfl) (by kernel_rfl) (fun _ _ _ h => h) (Or.inl ⟨by rfl, ?ya10⟩) (by assumption) ?ra10
            case ya10 => (intro w hSw; (try dsimp only at hSw); go_simp; try with_reducible rfl)
            try simp only [Act.put, List.setIfInBounds_toArray, List.set_cons_zero, List.set_cons_succ]
            refine wpAnyH_take (i := 11) (v := ?va11) (List.getElem?_toArray.trans rfl) (by kernel_rfl) (by kernel_rfl) (by kernel_rfl) (fun _ _ _ h => h) (Or.inl ⟨by rfl, ?ya11⟩) (by assumption) ?ra11
            case ya11 => (intro w hSw; (try dsimp only at hSw); go_simp; try with_reducible rfl)
            try simp only [Act.put, List.setIfInBounds_toArray, List.set_cons_zero, List.set_cons_succ]
            refine wpAnyH_take (i := 12) (v := ?va12) (List.getElem?_toArray.trans rfl) (by kernel_rfl) (by kernel_rfl) (by kernel_rfl) (fun _ _ _ h => h) (Or.inl ⟨by rfl, ?ya12⟩) (by assumption) ?ra12
            case ya12 => (intro w hSw; (try dsimp only at hSw); go_simp; try with_reducible rfl)
            try simp only [Act.put, List.setIfInBounds_toArray, List.set_cons_zero, List.set_cons_succ]
            refine wpAnyH_take (i := 13) (v := .int .i64 0) (List.getElem?_toArray.trans rfl) (by kernel_rfl) (by kernel_rfl) (by kernel_rfl) (fun _ _ _ h => h) (Or.inl ⟨by rfl, ?ya13⟩) (by assumption) ?ra13
            case ya13 => (intro w hSw; (try dsimp only at hSw); go_simp; try simp [hSw])
            try simp only [Act.put, List.setIfInBounds_toArray, List.set_cons_zero, List.set_cons_succ]
            refine wpAnyH_take (i := 14) (v := .bool false) (List.getElem?_toArray.trans rfl) (by kernel_rfl) (by kernel_rfl) (by kernel_rfl) (fun _ _ _ h => h) (Or.inl ⟨by rfl, ?ya14⟩) (by assumption) ?ra14
            case ya14 => (intro w hSw; (try dsimp only at hSw); go_simp; try simp [hSw])
            try simp only [Act.put, List.setIfInBounds_toArray, List.set_cons_zero, List.set_cons_succ]
            refine wpAnyH_take (i := 15) (v := ?va15) (List.getElem?_toArray.trans rfl) (by kernel_rfl) (by kernel_rfl) (by kernel_rfl) (fun _ _ _ h => h) (Or.inl ⟨by rfl, ?ya15⟩) (by assumption) ?ra15
            case ya15 => (intro w hSw; (try dsimp only at hSw); go_simp; try with_reducible rfl)
            try simp only [Act.put, List.setIfInBounds_toArray, List.set_cons_zero, List.set_cons_succ]
            refine wpAnyH_take (i := 16) (v := undef) (List.getElem?_toArray.trans rfl) (by kernel_rfl) (by kernel_rfl) (by kernel_rfl) (fun _ _ _ h => h) (Or.inr ⟨by first | (simp [Region.wanted, yielded]; done) | simp [Region.wanted, yielded, undef], rfl⟩) (by assumption) ?_
            try simp only [Act.put, List.setIfInBounds_toArray, List.set_cons_zero, List.set_cons_succ]
            refine wpAnyH_take (i := 17) (v := undef) (List.getElem?_toArray.trans rfl) (by kernel_rfl) (by kernel_rfl) (by kernel_rfl) (fun _ _ _ h => h) (Or.inr ⟨by first | (simp [Region.wanted, yielded]; done) | simp [Region.wanted, yielded, undef], rfl⟩) (by assumption) ?_
            try simp only [Act.put, List.setIfInBounds_toArray, List.set_cons_zero, List.set_cons_succ]
            refine wpAnyH_take (i := 18) (v := undef) (List.getElem?_toArray.trans rfl) (by kernel_rfl) (by kernel_rfl) (by kernel_rfl) (fun _ _ _ h => h) (Or.inr ⟨by first | (simp [Region.wanted, yielded]; done) | simp [Region.wanted, yielded, undef], rfl⟩) (by assumption) ?_
            try simp only [Act.put, List.setIfInBounds_toArray, List.set_cons_zero, List.set_cons_succ]
            refine wpAnyH_take (i := 19) (v := undef) (List.getElem?_toArray.trans rfl) (by kernel_rfl) (by kernel_rfl) (by kernel_rfl) (fun _ _ _ h => h) (Or.inr ⟨by first | (simp [Region.wanted, yielded]; done) | simp [Region.wanted, yielded, undef], rfl⟩) (by assumption) ?_
            try simp only [Act.put, List.setIfInBounds_toArray, List.set_cons_zero, List.set_cons_succ]
            refine wpAnyH_take (i := 20) (v := ?va20) (List.getElem?_toArray.trans rfl) (by kernel_rfl) (by kernel_rfl) (by kernel_rfl) (fun _ _ _ h => h) (Or.inl ⟨by rfl, ?ya20⟩) (by assumption) ?ra20
            case ya20 => (intro w hSw; (try dsimp only at hSw); go_simp; try with_reducible rfl)
            try simp only [Act.put, List.setIfInBounds_toArray, List.set_cons_zero, List.set_cons_succ]
            refine wpAnyH_take (i := 21) (v := ?va21) (List.getElem?_toArray.trans rfl) (by kernel_rfl) (by kernel_rfl) (by kernel_rfl) (fun _ _ _ h => h) (Or.inl ⟨by rfl, ?ya21⟩) (by assumption) ?ra21
            case ya21 => (intro w hSw; (try dsimp only at hSw); go_simp; try with_reducible rfl)
            try simp only [Act.put, List.setIfInBounds_toArray, List.set_cons_zero, List.set_cons_succ]
            refine wpAnyH_take (i := 22) (v := ?va22) (List.getElem?_toArray.trans rfl) (by kernel_rfl) (by kernel_rfl) (by kernel_rfl) (fun _ _ _ h => h) (Or.inl ⟨by rfl, ?ya22⟩) (by assumption) ?ra22
            case ya22 => (intro w hSw; (try dsimp only at hSw); go_simp; try with_reducible rfl)
            try simp only [Act.put, List.setIfInBounds_toArray, List.set_cons_zero, List.set_cons_succ]
            refine wpAnyH_take (i := 23) (v := ?va23) (List.getElem?_toArray.trans rfl) (by kernel_rfl) (by kernel_rfl) (by kernel_rfl) (fun _ _ _ h => h) (Or.inl ⟨by rfl, ?ya23⟩) (by assumption) ?ra23
            case ya23 => (intro w hSw; (try dsimp only at hSw); go_simp; try with_reducible rfl)
            try simp only [Act.put, List.setIfInBounds_toArray, List.set_cons_zero, List.set_cons_succ]
            refine wpAnyH_take (i := 24) (v := .int .i64 0) (List.getElem?_toArray.trans rfl) (by kernel_rfl) (by kernel_rfl) (by kernel_rfl) (fun _ _ _ h => h) (Or.inl ⟨by rfl, ?ya24⟩) (by assumption) ?ra24
            case ya24 => (intro w hSw; (try dsimp only at hSw); go_simp; try simp [hSw])
            try simp only [Act.put, List.setIfInBounds_toArray, List.set_cons_zero, List.set_cons_succ]
            refine wpAnyH_take (i := 25) (v := .bool false) (List.getElem?_toArray.trans rfl) (by kernel_rfl) (by kernel_rfl) (by kernel_rfl) (fun _ _ _ h => h) (Or.inl ⟨by rfl, ?ya25⟩) (by assumption) ?ra25
            case ya25 => (intro w hSw; (try dsimp only at hSw); go_simp; try simp [hSw])
            try simp only [Act.put, List.setIfInBounds_toArray, List.set_cons_zero, List.set_cons_succ]
            refine wpAnyH_take (i := 26) (v := ?va26) (List.getElem?_toArray.trans rfl) (by kernel_rfl) (by kernel_rfl) (by kernel_rfl) (fun _ _ _ h => h) (Or.inl ⟨by rfl, ?ya26⟩) (by assumption) ?ra26
            case ya26 => (intro w hSw; (try dsimp only at hSw); go_simp; try with_reducible rfl)
            try simp only [Act.put, List.setIfInBounds_toArray, List.set_cons_zero, List.set_cons_succ]
            refine wpAnyH_take (i := 27) (v := undef) (List.getElem?_toArray.trans rfl) (by kernel_rfl) (by kernel_rfl) (by kernel_rfl) (fun _ _ _ h => h) (Or.inr ⟨by first | (simp [Region.wanted, yielded]; done) | simp [Region.wanted, yielded, undef], rfl⟩) (by assumption) ?_
            try simp only [Act.put, List.setIfInBounds_toArray, List.set_cons_zero, List.set_cons_succ]
            refine wpAnyH_take (i := 28) (v := undef) (List.getElem?_toArray.trans rfl) (by kernel_rfl) (by kernel_rfl) (by kernel_rfl) (fun _ _ _ h => h) (Or.inr ⟨by first | (simp [Region.wanted, yielded]; done) | simp [Region.wanted, yielded, undef], rfl⟩) (by assumption) ?_
            try simp only [Act.put, List.setIfInBounds_toArray, List.set_cons_zero, List.set_cons_succ]
            refine wpAnyH_take (i := 29) (v := undef) (List.getElem?_toArray.trans rfl) (by kernel_rfl) (by kernel_rfl) (by kernel_rfl) (fun _ _ _ h => h) (Or.inr ⟨by first | (simp [Region.wanted, yielded]; done) | simp [Region.wanted, yielded, undef], rfl⟩) (by assumption) ?_
            try simp only [Act.put, List.setIfInBounds_toArray, List.set_cons_zero, List.set_cons_succ]
            refine wpAnyH_take (i := 30) (v := undef) (List.getElem?_toArray.trans rfl) (by kernel_rfl) (by kernel_rfl) (by kernel_rfl) (fun _ _ _ h => h) (Or.inr ⟨by first | (simp [Region.wanted, yielded]; done) | simp [Region.wanted, yielded, undef], rfl⟩) (by assumption) ?_
            try simp only [Act.put, List.setIfInBounds_toArray, List.set_cons_zero, List.set_cons_succ]
            refine wpAnyH_take (i := 31) (v := ?va31) (List.getElem?_toArray.trans rfl) (by kernel_rfl) (by kernel_rfl) (by kernel_rfl) (fun _ _ _ h => h) (Or.inl ⟨by rfl, ?ya31⟩) (by assumption) ?ra31
            case ya31 => (intro w hSw; (try dsimp only at hSw); go_simp; try with_reducible rfl)
            try simp only [Act.put, List.setIfInBounds_toArray, List.set_cons_zero, List.set_cons_succ]
            refine wpAnyH_take (i := 32) (v := ?va32) (List.getElem?_toArray.trans rfl) (by kernel_rfl) (by kernel_rfl) (by kernel_rfl) (fun _ _ _ h => h) (Or.inl ⟨by rfl, ?ya32⟩) (by assumption) ?ra32
            case ya32 => (intro w hSw; (try dsimp only at hSw); go_simp; try with_reducible rfl)
            try simp only [Act.put, List.setIfInBounds_toArray, List.set_cons_zero, List.set_cons_succ]
            refine wpAnyH_done (by kernel_rfl) ?_ _
            go_wp2_with fail
            go_meet
            case rel => exact ⟨rfl, hbd⟩
          · clear hStep
            have hak : asksB kq = true := by unfold asksB inR; exact decide_eq_true ⟨hz1, hz4⟩
            have hA7 := asks_impl kq Wd
            rw [hak] at hA7
            have e0 : (kq == 0) = false := by simp; omega
            have g0 : decide (kq > 0) = true := decide_eq_true (by omega)
            have g1 : decide (0 < kq) = true := decide_eq_true (by omega)
            by_cases hk1 : kq = 1
            · have e1 : (kq == 1) = true := by simp; exact hk1
              have hI7 := Adr.is_impl qa qb qc Wd
              rw [hadr hk1] at hI7
              clear hk1 hadr hak
              refine wp_region_held_drew (S := (fun w' => w'.cell? ⟨bS, 0, none⟩ = some (.int .i64 S.f0) ∧ w'.cell? ⟨bS, 1, none⟩ = some (.slice a1 S.f1.length c1) ∧ w'.cell? ⟨bS, 2, none⟩ = some (.slice a2 S.f2.length c2) ∧ w'.cell? ⟨bS, 3, none⟩ = some (.slice a3 S.f3.length c3) ∧ w'.cell? ⟨bR, 0, none⟩ = some (.int .i64 R.f0) ∧ w'.cell? ⟨bR, 1, none⟩ = some (.slice x1 R.f1.length y1) ∧ w'.cell? ⟨bR, 2, none⟩ = some (.slice x2 R.f2.length y2) ∧ w'.cell? ⟨bR, 3, none⟩ = some (.slice x3 R.f3.length y3) ∧ w'.cell? ⟨bQ, 0, none⟩ = some (.int .i64 kq) ∧ w'.cell? ⟨bQ, 1, none⟩ = some (.int .i64 qa) ∧ w'.cell? ⟨bQ, 2, none⟩ = some (.int .i64 qb) ∧ w'.cell? ⟨bQ, 3, none⟩ = some (.int .i64 qc))) (by kernel_rfl) (by rw [hWd]; exact ⟨qSd.at rfl, qSd.at rfl, qSd.at rfl, qSd.at rfl, qRd.at rfl, qRd.at rfl, qRd.at rfl, qRd.at rfl, qQd.at rfl, qQd.at rfl, qQd.at rfl, qQd.at rfl⟩) (fun hHeld => ?_)
              rw [hWd] at hHeld ⊢
              refine wpAnyH_take (i := 0) (v := ?vb0) (List.getElem?_toArray.trans rfl) (by kernel_rfl) (by kernel_rfl) (by kernel_rfl) (fun _ _ _ h => h) (Or.inl ⟨by rfl, ?yb0⟩) (by assumption) ?rb0
              case yb0 => (intro w hSw; (try dsimp only at hSw); go_simp; try with_reducible rfl)
              try simp only [Act.put, List.setIfInBounds_toArray, List.set_cons_zero, List.set_cons_succ]
              refine wpAnyH_take (i := 1) (v := .int .i64 kq) (List.getElem?_toArray.trans rfl) (by kernel_rfl) (by kernel_rfl) (by kernel_rfl) (fun _ _ _ h => h) (Or.inl ⟨by rfl, ?yb1⟩) (by assumption) ?rb1
              case yb1 => (intro w hSw; (try dsimp only at hSw); go_simp; try simp [hSw])
              try simp only [Act.put, List.setIfInBounds_toArray, List.set_cons_zero, List.set_cons_succ]
              refine wpAnyH_take (i := 2) (v := .bool false) (List.getElem?_toArray.trans rfl) (by kernel_rfl) (by kernel_rfl) (by kernel_rfl) (fun _ _ _ h => h) (Or.inl ⟨by rfl, ?yb2⟩) (by assumption) ?rb2
              case yb2 => (intro w hSw; (try dsimp only at hSw); go_simp; try simp [hSw, e0])
              try simp only [Act.put, List.setIfInBounds_toArray, List.set_cons_zero, List.set_cons_succ]
              refine wpAnyH_take (i := 3) (v := ?vb3) (List.getElem?_toArray.trans rfl) (by kernel_rfl) (by kernel_rfl) (by kernel_rfl) (fun _ _ _ h => h) (Or.inl ⟨by rfl, ?yb3⟩) (by assumption) ?rb3
              case yb3 => (intro w hSw; (try dsimp only at hSw); go_simp; try with_reducible rfl)
              try simp only [Act.put, List.setIfInBounds_toArray, List.set_cons_zero, List.set_cons_succ]
              refine wpAnyH_take (i := 4) (v := undef) (List.getElem?_toArray.trans rfl) (by kernel_rfl) (by kernel_rfl) (by kernel_rfl) (fun _ _ _ h => h) (Or.inr ⟨by first | (simp [Region.wanted, yielded]; done) | simp [Region.wanted, yielded, undef], rfl⟩) (by assumption) ?_
              try simp only [Act.put, List.setIfInBounds_toArray, List.set_cons_zero, List.set_cons_succ]
              refine wpAnyH_take (i := 5) (v := undef) (List.getElem?_toArray.trans rfl) (by kernel_rfl) (by kernel_rfl) (by kernel_rfl) (fun _ _ _ h => h) (Or.inr ⟨by first | (simp [Region.wanted, yielded]; done) | simp [Region.wanted, yielded, undef], rfl⟩) (by assumption) ?_
              try simp only [Act.put, List.setIfInBounds_toArray, List.set_cons_zero, List.set_cons_succ]
              refine wpAnyH_take (i := 6) (v := undef) (List.getElem?_toArray.trans rfl) (by kernel_rfl) (by kernel_rfl) (by kernel_rfl) (fun _ _ _ h => h) (Or.inr ⟨by first | (simp [Region.wanted, yielded]; done) | simp [Region.wanted, yielded, undef], rfl⟩) (by assumption) ?_
              try simp only [Act.put, List.setIfInBounds_toArray, List.set_cons_zero, List.set_cons_succ]
              refine wpAnyH_take (i := 7) (v := undef) (List.getElem?_toArray.trans rfl) (by kernel_rfl) (by kernel_rfl) (by kernel_rfl) (fun _ _ _ h => h) (Or.inr ⟨by first | (simp [Region.wanted, yielded]; done) | simp [Region.wanted, yielded, undef], rfl⟩) (by assumption) ?_
              try simp only [Act.put, List.setIfInBounds_toArray, List.set_cons_zero, List.set_cons_succ]
              refine wpAnyH_take (i := 8) (v := undef) (List.getElem?_toArray.trans rfl) (by kernel_rfl) (by kernel_rfl) (by kernel_rfl) (fun _ _ _ h => h) (Or.inr ⟨by first | (simp [Region.wanted, yielded]; done) | simp [Region.wanted, yielded, undef], rfl⟩) (by assumption) ?_
              try simp only [Act.put, List.setIfInBounds_toArray, List.set_cons_zero, List.set_cons_succ]
              refine wpAnyH_take (i := 9) (v := undef) (List.getElem?_toArray.trans rfl) (by kernel_rfl) (by kernel_rfl) (by kernel_rfl) (fun _ _ _ h => h) (Or.inr ⟨by first | (simp [Region.wanted, yielded]; done) | simp [Region.wanted, yielded, undef], rfl⟩) (by assumption) ?_
              try simp only [Act.put, List.setIfInBounds_toArray, List.set_cons_zero, List.set_cons_succ]
              refine wpAnyH_take (i := 10) (v := ?vb10) (List.getElem?_toArray.trans rfl) (by kernel_rfl) (by kernel_rfl) (by kernel_rfl) (fun _ _ _ h => h) (Or.inl ⟨by rfl, ?yb10⟩) (by assumption) ?rb10
              case yb10 => (intro w hSw; (try dsimp only at hSw); go_simp; try with_reducible rfl)
              try simp only [Act.put, List.setIfInBounds_toArray, List.set_cons_zero, List.set_cons_succ]
              refine wpAnyH_take (i := 11) (v := ?vb11) (List.getElem?_toArray.trans rfl) (by kernel_rfl) (by kernel_rfl) (by kernel_rfl) (fun _ _ _ h => h) (Or.inl ⟨by rfl, ?yb11⟩) (by assumption) ?rb11
              case yb11 => (intro w hSw; (try dsimp only at hSw); go_simp; try with_reducible rfl)
              try simp only [Act.put, List.setIfInBounds_toArray, List.set_cons_zero, List.set_cons_succ]
              refine wpAnyH_take (i := 12) (v := ?vb12) (List.getElem?_toArray.trans rfl) (by kernel_rfl) (by kernel_rfl) (by kernel_rfl) (fun _ _ _ h => h) (Or.inl ⟨by rfl, ?yb12⟩) (by assumption) ?rb12
              case yb12 => (intro w hSw; (try dsimp only at hSw); go_simp; try with_reducible rfl)
              try simp only [Act.put, List.setIfInBounds_toArray, List.set_cons_zero, List.set_cons_succ]
              refine wpAnyH_take (i := 13) (v := .int .i64 kq) (List.getElem?_toArray.trans rfl) (by kernel_rfl) (by kernel_rfl) (by kernel_rfl) (fun _ _ _ h => h) (Or.inl ⟨by rfl, ?yb13⟩) (by assumption) ?rb13
              case yb13 => (intro w hSw; (try dsimp only at hSw); go_simp; try simp [hSw])
              try simp only [Act.put, List.setIfInBounds_toArray, List.set_cons_zero, List.set_cons_succ]
              refine wpAnyH_take (i := 14) (v := .bool true) (List.getElem?_toArray.trans rfl) (by kernel_rfl) (by kernel_rfl) (by kernel_rfl) (fun _ _ _ h => h) (Or.inl ⟨by rfl, ?yb14⟩) (by assumption) ?rb14
              case yb14 => (intro w hSw; (try dsimp only at hSw); go_simp; try simp [hSw, g0, g1])
              try simp only [Act.put, List.setIfInBounds_toArray, List.set_cons_zero, List.set_cons_succ]
              refine wpAnyH_take (i := 15) (v := ?vb15) (List.getElem?_toArray.trans rfl) (by kernel_rfl) (by kernel_rfl) (by kernel_rfl) (fun _ _ _ h => h) (Or.inl ⟨by rfl, ?yb15⟩) (by assumption) ?rb15
              case yb15 => (intro w hSw; (try dsimp only at hSw); go_simp; try with_reducible rfl)
              try simp only [Act.put, List.setIfInBounds_toArray, List.set_cons_zero, List.set_cons_succ]
              refine wpAnyH_take (i := 16) (v := ?vb16) (List.getElem?_toArray.trans rfl) (by kernel_rfl) (by kernel_rfl) (by kernel_rfl) (fun _ _ _ h => h) (Or.inl ⟨by rfl, ?yb16⟩) (by assumption) ?rb16
              case yb16 => (intro w hSw; (try dsimp only at hSw); go_simp; try with_reducible rfl)
              try simp only [Act.put, List.setIfInBounds_toArray, List.set_cons_zero, List.set_cons_succ]
              refine wpAnyH_take (i := 17) (v := .int .i64 kq) (List.getElem?_toArray.trans rfl) (by kernel_rfl) (by kernel_rfl) (by kernel_rfl) (fun _ _ _ h => h) (Or.inl ⟨by rfl, ?yb17⟩) (by assumption) ?rb17
              case yb17 => (intro w hSw; (try dsimp only at hSw); go_simp; try simp [hSw])
              try simp only [Act.put, List.setIfInBounds_toArray, List.set_cons_zero, List.set_cons_succ]
              refine wpAnyH_ready (rs := [18]) (by kernel_rfl) (by simp) ?_
              refine AllReadyH.cons (List.getElem?_toArray.trans rfl) (fun K hK => ?_) AllReadyH.nil
              go_simp
              go_at_call 18
              refine hA7.mono ?_
              rintro e w6 ⟨rfl, he⟩
              subst he
              have s9 : Wd.cell? ⟨bS, 0, none⟩ = some (.int .i64 S.f0) ∧ Wd.cell? ⟨bS, 1, none⟩ = some (.slice a1 S.f1.length c1) ∧ Wd.cell? ⟨bS, 2, none⟩ = some (.slice a2 S.f2.length c2) ∧ Wd.cell? ⟨bS, 3, none⟩ = some (.slice a3 S.f3.length c3) ∧ Wd.cell? ⟨bR, 0, none⟩ = some (.int .i64 R.f0) ∧ Wd.cell? ⟨bR, 1, none⟩ = some (.slice x1 R.f1.length y1) ∧ Wd.cell? ⟨bR, 2, none⟩ = some (.slice x2 R.f2.length y2) ∧ Wd.cell? ⟨bR, 3, none⟩ = some (.slice x3 R.f3.length y3) ∧ Wd.cell? ⟨bQ, 0, none⟩ = some (.int .i64 kq) ∧ Wd.cell? ⟨bQ, 1, none⟩ = some (.int .i64 qa) ∧ Wd.cell? ⟨bQ, 2, none⟩ = some (.int .i64 qb) ∧ Wd.cell? ⟨bQ, 3, none⟩ = some (.int .i64 qc) := ⟨qSd.at rfl, qSd.at rfl, qSd.at rfl, qSd.at rfl, qRd.at rfl, qRd.at rfl, qRd.at rfl, qRd.at rfl, qQd.at rfl, qQd.at rfl, qQd.at rfl, qQd.at rfl⟩
              refine hK.out _ _ s9 (fun hHeld => ?_)
              clear hK K
              try simp only [Act.put, List.setIfInBounds_toArray, List.set_cons_zero, List.set_cons_succ]
              refine wpAnyH_take (i := 19) (v := ?vb19) (List.getElem?_toArray.trans rfl) (by kernel_rfl) (by kernel_rfl) (by kernel_rfl) (fun _ _ _ h => h) (Or.inl ⟨by rfl, ?yb19⟩) (by assumption) ?rb19
              case yb19 => (intro w hSw; (try dsimp only at hSw); go_simp; try with_reducible rfl)
              try simp only [Act.put, List.setIfInBounds_toArray, List.set_cons_zero, List.set_cons_succ]
              refine wpAnyH_take (i := 20) (v := ?vb20) (List.getElem?_toArray.trans rfl) (by kernel_rfl) (by kernel_rfl) (by kernel_rfl) (fun _ _ _ h => h) (Or.inl ⟨by rfl, ?yb20⟩) (by assumption) ?rb20
              case yb20 => (intro w hSw; (try dsimp only at hSw); go_simp; try with_reducible rfl)
              try simp only [Act.put, List.setIfInBounds_toArray, List.set_cons_zero, List.set_cons_succ]
              refine wpAnyH_take (i := 21) (v := ?vb21) (List.getElem?_toArray.trans rfl) (by kernel_rfl) (by kernel_rfl) (by kernel_rfl) (fun _ _ _ h => h) (Or.inl ⟨by rfl, ?yb21⟩) (by assumption) ?rb21
              case yb21 => (intro w hSw; (try dsimp only at hSw); go_simp; try with_reducible rfl)
              try simp only [Act.put, List.setIfInBounds_toArray, List.set_cons_zero, List.set_cons_succ]
              refine wpAnyH_take (i := 22) (v := ?vb22) (List.getElem?_toArray.trans rfl) (by kernel_rfl) (by kernel_rfl) (by kernel_rfl) (fun _ _ _ h => h) (Or.inl ⟨by rfl, ?yb22⟩) (by assumption) ?rb22
              case yb22 => (intro w hSw; (try dsimp only at hSw); go_simp; try with_reducible rfl)
              try simp only [Act.put, List.setIfInBounds_toArray, List.set_cons_zero, List.set_cons_succ]
              refine wpAnyH_take (i := 23) (v := ?vb23) (List.getElem?_toArray.trans rfl) (by kernel_rfl) (by kernel_rfl) (by kernel_rfl) (fun _ _ _ h => h) (Or.inl ⟨by rfl, ?yb23⟩) (by assumption) ?rb23
              case yb23 => (intro w hSw; (try dsimp only at hSw); go_simp; try with_reducible rfl)
              try simp only [Act.put, List.setIfInBounds_toArray, List.set_cons_zero, List.set_cons_succ]
              refine wpAnyH_take (i := 24) (v := .int .i64 kq) (List.getElem?_toArray.trans rfl) (by kernel_rfl) (by kernel_rfl) (by kernel_rfl) (fun _ _ _ h => h) (Or.inl ⟨by rfl, ?yb24⟩) (by assumption) ?rb24
              case yb24 => (intro w hSw; (try dsimp only at hSw); go_simp; try simp [hSw])
              try simp only [Act.put, List.setIfInBounds_toArray, List.set_cons_zero, List.set_cons_succ]
              refine wpAnyH_take (i := 25) (v := .bool true) (List.getElem?_toArray.trans rfl) (by kernel_rfl) (by kernel_rfl) (by kernel_rfl) (fun _ _ _ h => h) (Or.inl ⟨by rfl, ?yb25⟩) (by assumption) ?rb25
              case yb25 => (intro w hSw; (try dsimp only at hSw); go_simp; try simp [hSw, e1])
              try simp only [Act.put, List.setIfInBounds_toArray, List.set_cons_zero, List.set_cons_succ]
              refine wpAnyH_take (i := 26) (v := ?vb26) (List.getElem?_toArray.trans rfl) (by kernel_rfl) (by kernel_rfl) (by kernel_rfl) (fun _ _ _ h => h) (Or.inl ⟨by rfl, ?yb26⟩) (by assumption) ?rb26
              case yb26 => (intro w hSw; (try dsimp only at hSw); go_simp; try with_reducible rfl)
              try simp only [Act.put, List.setIfInBounds_toArray, List.set_cons_zero, List.set_cons_succ]
              refine wpAnyH_take (i := 27) (v := ?vb27) (List.getElem?_toArray.trans rfl) (by kernel_rfl) (by kernel_rfl) (by kernel_rfl) (fun _ _ _ h => h) (Or.inl ⟨by rfl, ?yb27⟩) (by assumption) ?rb27
              case yb27 => (intro w hSw; (try dsimp only at hSw); go_simp; try with_reducible rfl)
              try simp only [Act.put, List.setIfInBounds_toArray, List.set_cons_zero, List.set_cons_succ]
              refine wpAnyH_take (i := 28) (v := .agg #[.int .i64 qa, .int .i64 qb, .int .i64 qc]) (List.getElem?_toArray.trans rfl) (by kernel_rfl) (by kernel_rfl) (by kernel_rfl) (fun _ _ _ h => h) (Or.inl ⟨by rfl, ?yb28⟩) (by assumption) ?rb28
              case yb28 => (intro w hSw; (try dsimp only at hSw); go_simp; try simp [hSw])
              try simp only [Act.put, List.setIfInBounds_toArray, List.set_cons_zero, List.set_cons_succ]
              refine wpAnyH_ready (rs := [29]) (by kernel_rfl) (by simp) ?_
              refine AllReadyH.cons (List.getElem?_toArray.trans rfl) (fun K hK => ?_) AllReadyH.nil
              go_simp
              go_at_call 19
              refine hI7.mono ?_
              rintro e w7 ⟨rfl, hb7⟩
              have qSd := Blk.below (w := Wd) qSd hb7
              have qRd := Blk.below (w := Wd) qRd hb7
              have qQd := Blk.below (w := Wd) qQd hb7
              have hbd := Below.trans (b := Wd) hbd (Below.mono (w := Wd) hb7 hbd.size)
              have s9 : w7.cell? ⟨bS, 0, none⟩ = some (.int .i64 S.f0) ∧ w7.cell? ⟨bS, 1, none⟩ = some (.slice a1 S.f1.length c1) ∧ w7.cell? ⟨bS, 2, none⟩ = some (.slice a2 S.f2.length c2) ∧ w7.cell? ⟨bS, 3, none⟩ = some (.slice a3 S.f3.length c3) ∧ w7.cell? ⟨bR, 0, none⟩ = some (.int .i64 R.f0) ∧ w7.cell? ⟨bR, 1, none⟩ = some (.slice x1 R.f1.length y1) ∧ w7.cell? ⟨bR, 2, none⟩ = some (.slice x2 R.f2.length y2) ∧ w7.cell? ⟨bR, 3, none⟩ = some (.slice x3 R.f3.length y3) ∧ w7.cell? ⟨bQ, 0, none⟩ = some (.int .i64 kq) ∧ w7.cell? ⟨bQ, 1, none⟩ = some (.int .i64 qa) ∧ w7.cell? ⟨bQ, 2, none⟩ = some (.int .i64 qb) ∧ w7.cell? ⟨bQ, 3, none⟩ = some (.int .i64 qc) := ⟨qSd.at rfl, qSd.at rfl, qSd.at rfl, qSd.at rfl, qRd.at rfl, qRd.at rfl, qRd.at rfl, qRd.at rfl, qQd.at rfl, qQd.at rfl, qQd.at rfl, qQd.at rfl⟩
              refine hK.out _ _ s9 (fun hHeld => ?_)
              clear hK K
              try simp only [Act.put, List.setIfInBounds_toArray, List.set_cons_zero, List.set_cons_succ]
              refine wpAnyH_take (i := 30) (v := ?vb30) (List.getElem?_toArray.trans rfl) (by kernel_rfl) (by kernel_rfl) (by kernel_rfl) (fun _ _ _ h => h) (Or.inl ⟨by rfl, ?yb30⟩) (by assumption) ?rb30
              case yb30 => (intro w hSw; (try dsimp only at hSw); go_simp; try with_reducible rfl)
              try simp only [Act.put, List.setIfInBounds_toArray, List.set_cons_zero, List.set_cons_succ]
              refine wpAnyH_take (i := 31) (v := ?vb31) (List.getElem?_toArray.trans rfl) (by kernel_rfl) (by kernel_rfl) (by kernel_rfl) (fun _ _ _ h => h) (Or.inl ⟨by rfl, ?yb31⟩) (by assumption) ?rb31
              case yb31 => (intro w hSw; (try dsimp only at hSw); go_simp; try with_reducible rfl)
              try simp only [Act.put, List.setIfInBounds_toArray, List.set_cons_zero, List.set_cons_succ]
              refine wpAnyH_take (i := 32) (v := ?vb32) (List.getElem?_toArray.trans rfl) (by kernel_rfl) (by kernel_rfl) (by kernel_rfl) (fun _ _ _ h => h) (Or.inl ⟨by rfl, ?yb32⟩) (by assumption) ?rb32
              case yb32 => (intro w hSw; (try dsimp only at hSw); go_simp; try with_reducible rfl)
              try simp only [Act.put, List.setIfInBounds_toArray, List.set_cons_zero, List.set_cons_succ]
              refine wpAnyH_done (by kernel_rfl) ?_ _
              go_wp2_with fail
              go_meet
              case rel => exact ⟨rfl, hbd⟩
            · have e1 : (kq == 1) = false := by simpa using hk1
              clear hk1 hadr hak
              refine wp_region_held_drew (S := (fun w' => w'.cell? ⟨bS, 0, none⟩ = some (.int .i64 S.f0) ∧ w'.cell? ⟨bS, 1, none⟩ = some (.slice a1 S.f1.length c1) ∧ w'.cell? ⟨bS, 2, none⟩ = some (.slice a2 S.f2.length c2) ∧ w'.cell? ⟨bS, 3, none⟩ = some (.slice a3 S.f3.length c3) ∧ w'.cell? ⟨bR, 0, none⟩ = some (.int .i64 R.f0) ∧ w'.cell? ⟨bR, 1, none⟩ = some (.slice x1 R.f1.length y1) ∧ w'.cell? ⟨bR, 2, none⟩ = some (.slice x2 R.f2.length y2) ∧ w'.cell? ⟨bR, 3, none⟩ = some (.slice x3 R.f3.length y3) ∧ w'.cell? ⟨bQ, 0, none⟩ = some (.int .i64 kq) ∧ w'.cell? ⟨bQ, 1, none⟩ = some (.int .i64 qa) ∧ w'.cell? ⟨bQ, 2, none⟩ = some (.int .i64 qb) ∧ w'.cell? ⟨bQ, 3, none⟩ = some (.int .i64 qc))) (by kernel_rfl) (by rw [hWd]; exact ⟨qSd.at rfl, qSd.at rfl, qSd.at rfl, qSd.at rfl, qRd.at rfl, qRd.at rfl, qRd.at rfl, qRd.at rfl, qQd.at rfl, qQd.at rfl, qQd.at rfl, qQd.at rfl⟩) (fun hHeld => ?_)
              rw [hWd] at hHeld ⊢
              refine wpAnyH_take (i := 0) (v := ?vc0) (List.getElem?_toArray.trans rfl) (by kernel_rfl) (by kernel_rfl) (by kernel_rfl) (fun _ _ _ h => h) (Or.inl ⟨by rfl, ?yc0⟩) (by assumption) ?rc0
              case yc0 => (intro w hSw; (try dsimp only at hSw); go_simp; try with_reducible rfl)
              try simp only [Act.put, List.setIfInBounds_toArray, List.set_cons_zero, List.set_cons_succ]
              refine wpAnyH_take (i := 1) (v := .int .i64 kq) (List.getElem?_toArray.trans rfl) (by kernel_rfl) (by kernel_rfl) (by kernel_rfl) (fun _ _ _ h => h) (Or.inl ⟨by rfl, ?yc1⟩) (by assumption) ?rc1
              case yc1 => (intro w hSw; (try dsimp only at hSw); go_simp; try simp [hSw])
              try simp only [Act.put, List.setIfInBounds_toArray, List.set_cons_zero, List.set_cons_succ]
              refine wpAnyH_take (i := 2) (v := .bool false) (List.getElem?_toArray.trans rfl) (by kernel_rfl) (by kernel_rfl) (by kernel_rfl) (fun _ _ _ h => h) (Or.inl ⟨by rfl, ?yc2⟩) (by assumption) ?rc2
              case yc2 => (intro w hSw; (try dsimp only at hSw); go_simp; try simp [hSw, e0])
              try simp only [Act.put, List.setIfInBounds_toArray, List.set_cons_zero, List.set_cons_succ]
              refine wpAnyH_take (i := 3) (v := ?vc3) (List.getElem?_toArray.trans rfl) (by kernel_rfl) (by kernel_rfl) (by kernel_rfl) (fun _ _ _ h => h) (Or.inl ⟨by rfl, ?yc3⟩) (by assumption) ?rc3
              case yc3 => (intro w hSw; (try dsimp only at hSw); go_simp; try with_reducible rfl)
              try simp only [Act.put, List.setIfInBounds_toArray, List.set_cons_zero, List.set_cons_succ]
              refine wpAnyH_take (i := 4) (v := undef) (List.getElem?_toArray.trans rfl) (by kernel_rfl) (by kernel_rfl) (by kernel_rfl) (fun _ _ _ h => h) (Or.inr ⟨by first | (simp [Region.wanted, yielded]; done) | simp [Region.wanted, yielded, undef], rfl⟩) (by assumption) ?_
              try simp only [Act.put, List.setIfInBounds_toArray, List.set_cons_zero, List.set_cons_succ]
              refine wpAnyH_take (i := 5) (v := undef) (List.getElem?_toArray.trans rfl) (by kernel_rfl) (by kernel_rfl) (by kernel_rfl) (fun _ _ _ h => h) (Or.inr ⟨by first | (simp [Region.wanted, yielded]; done) | simp [Region.wanted, yielded, undef], rfl⟩) (by assumption) ?_
              try simp only [Act.put, List.setIfInBounds_toArray, List.set_cons_zero, List.set_cons_succ]
              refine wpAnyH_take (i := 6) (v := undef) (List.getElem?_toArray.trans rfl) (by kernel_rfl) (by kernel_rfl) (by kernel_rfl) (fun _ _ _ h => h) (Or.inr ⟨by first | (simp [Region.wanted, yielded]; done) | simp [Region.wanted, yielded, undef], rfl⟩) (by assumption) ?_
              try simp only [Act.put, List.setIfInBounds_toArray, List.set_cons_zero, List.set_cons_succ]
              refine wpAnyH_take (i := 7) (v := undef) (List.getElem?_toArray.trans rfl) (by kernel_rfl) (by kernel_rfl) (by kernel_rfl) (fun _ _ _ h => h) (Or.inr ⟨by first | (simp [Region.wanted, yielded]; done) | simp [Region.wanted, yielded, undef], rfl⟩) (by assumption) ?_
              try simp only [Act.put, List.setIfInBounds_toArray, List.set_cons_zero, List.set_cons_succ]
              refine wpAnyH_take (i := 8) (v := undef) (List.getElem?_toArray.trans rfl) (by kernel_rfl) (by kernel_rfl) (by kernel_rfl) (fun _ _ _ h => h) (Or.inr ⟨by first | (simp [Region.wanted, yielded]; done) | simp [Region.wanted, yielded, undef], rfl⟩) (by assumption) ?_
              try simp only [Act.put, List.setIfInBounds_toArray, List.set_cons_zero, List.set_cons_succ]
              refine wpAnyH_take (i := 9) (v := undef) (List.getElem?_toArray.trans rfl) (by kernel_rfl) (by kernel_rfl) (by kernel_rfl) (fun _ _ _ h => h) (Or.inr ⟨by first | (simp [Region.wanted, yielded]; done) | simp [Region.wanted, yielded, undef], rfl⟩) (by assumption) ?_
              try simp only [Act.put, List.setIfInBounds_toArray, List.set_cons_zero, List.set_cons_succ]
              refine wpAnyH_take (i := 10) (v := ?vc10) (List.getElem?_toArray.trans rfl) (by kernel_rfl) (by kernel_rfl) (by kernel_rfl) (fun _ _ _ h => h) (Or.inl ⟨by rfl, ?yc10⟩) (by assumption) ?rc10
              case yc10 => (intro w hSw; (try dsimp only at hSw); go_simp; try with_reducible rfl)
              try simp only [Act.put, List.setIfInBounds_toArray, List.set_cons_zero, List.set_cons_succ]
              refine wpAnyH_take (i := 11) (v := ?vc11) (List.getElem?_toArray.trans rfl) (by kernel_rfl) (by kernel_rfl) (by kernel_rfl) (fun _ _ _ h => h) (Or.inl ⟨by rfl, ?yc11⟩) (by assumption) ?rc11
              case yc11 => (intro w hSw; (try dsimp only at hSw); go_simp; try with_reducible rfl)
              try simp only [Act.put, List.setIfInBounds_toArray, List.set_cons_zero, List.set_cons_succ]
              refine wpAnyH_take (i := 12) (v := ?vc12) (List.getElem?_toArray.trans rfl) (by kernel_rfl) (by kernel_rfl) (by kernel_rfl) (fun _ _ _ h => h) (Or.inl ⟨by rfl, ?yc12⟩) (by assumption) ?rc12
              case yc12 => (intro w hSw; (try dsimp only at hSw); go_simp; try with_reducible rfl)
              try simp only [Act.put, List.setIfInBounds_toArray, List.set_cons_zero, List.set_cons_succ]
              refine wpAnyH_take (i := 13) (v := .int .i64 kq) (List.getElem?_toArray.trans rfl) (by kernel_rfl) (by kernel_rfl) (by kernel_rfl) (fun _ _ _ h => h) (Or.inl ⟨by rfl, ?yc13⟩) (by assumption) ?rc13
              case yc13 => (intro w hSw; (try dsimp only at hSw); go_simp; try simp [hSw])
              try simp only [Act.put, List.setIfInBounds_toArray, List.set_cons_zero, List.set_cons_succ]
              refine wpAnyH_take (i := 14) (v := .bool true) (List.getElem?_toArray.trans rfl) (by kernel_rfl) (by kernel_rfl) (by kernel_rfl) (fun _ _ _ h => h) (Or.inl ⟨by rfl, ?yc14⟩) (by assumption) ?rc14
              case yc14 => (intro w hSw; (try dsimp only at hSw); go_simp; try simp [hSw, g0, g1])
              try simp only [Act.put, List.setIfInBounds_toArray, List.set_cons_zero, List.set_cons_succ]
              refine wpAnyH_take (i := 15) (v := ?vc15) (List.getElem?_toArray.trans rfl) (by kernel_rfl) (by kernel_rfl) (by kernel_rfl) (fun _ _ _ h => h) (Or.inl ⟨by rfl, ?yc15⟩) (by assumption) ?rc15
              case yc15 => (intro w hSw; (try dsimp only at hSw); go_simp; try with_reducible rfl)
              try simp only [Act.put, List.setIfInBounds_toArray, List.set_cons_zero, List.set_cons_succ]
              refine wpAnyH_take (i := 16) (v := ?vc16) (List.getElem?_toArray.trans rfl) (by kernel_rfl) (by kernel_rfl) (by kernel_rfl) (fun _ _ _ h => h) (Or.inl ⟨by rfl, ?yc16⟩) (by assumption) ?rc16
              case yc16 => (intro w hSw; (try dsimp only at hSw); go_simp; try with_reducible rfl)
              try simp only [Act.put, List.setIfInBounds_toArray, List.set_cons_zero, List.set_cons_succ]
              refine wpAnyH_take (i := 17) (v := .int .i64 kq) (List.getElem?_toArray.trans rfl) (by kernel_rfl) (by kernel_rfl) (by kernel_rfl) (fun _ _ _ h => h) (Or.inl ⟨by rfl, ?yc17⟩) (by assumption) ?rc17
              case yc17 => (intro w hSw; (try dsimp only at hSw); go_simp; try simp [hSw])
              try simp only [Act.put, List.setIfInBounds_toArray, List.set_cons_zero, List.set_cons_succ]
              refine wpAnyH_ready (rs := [18]) (by kernel_rfl) (by simp) ?_
              refine AllReadyH.cons (List.getElem?_toArray.trans rfl) (fun K hK => ?_) AllReadyH.nil
              go_simp
              go_at_call 18
              refine hA7.mono ?_
              rintro e w6 ⟨rfl, he⟩
              subst he
              have s9 : Wd.cell? ⟨bS, 0, none⟩ = some (.int .i64 S.f0) ∧ Wd.cell? ⟨bS, 1, none⟩ = some (.slice a1 S.f1.length c1) ∧ Wd.cell? ⟨bS, 2, none⟩ = some (.slice a2 S.f2.length c2) ∧ Wd.cell? ⟨bS, 3, none⟩ = some (.slice a3 S.f3.length c3) ∧ Wd.cell? ⟨bR, 0, none⟩ = some (.int .i64 R.f0) ∧ Wd.cell? ⟨bR, 1, none⟩ = some (.slice x1 R.f1.length y1) ∧ Wd.cell? ⟨bR, 2, none⟩ = some (.slice x2 R.f2.length y2) ∧ Wd.cell? ⟨bR, 3, none⟩ = some (.slice x3 R.f3.length y3) ∧ Wd.cell? ⟨bQ, 0, none⟩ = some (.int .i64 kq) ∧ Wd.cell? ⟨bQ, 1, none⟩ = some (.int .i64 qa) ∧ Wd.cell? ⟨bQ, 2, none⟩ = some (.int .i64 qb) ∧ Wd.cell? ⟨bQ, 3, none⟩ = some (.int .i64 qc) := ⟨qSd.at rfl, qSd.at rfl, qSd.at rfl, qSd.at rfl, qRd.at rfl, qRd.at rfl, qRd.at rfl, qRd.at rfl, qQd.at rfl, qQd.at rfl, qQd.at rfl, qQd.at rfl⟩
              refine hK.out _ _ s9 (fun hHeld => ?_)
              clear hK K
              try simp only [Act.put, List.setIfInBounds_toArray, List.set_cons_zero, List.set_cons_succ]
              refine wpAnyH_take (i := 19) (v := ?vc19) (List.getElem?_toArray.trans rfl) (by kernel_rfl) (by kernel_rfl) (by kernel_rfl) (fun _ _ _ h => h) (Or.inl ⟨by rfl, ?yc19⟩) (by assumption) ?rc19
              case yc19 => (intro w hSw; (try dsimp only at hSw); go_simp; try with_reducible rfl)
              try simp only [Act.put, List.setIfInBounds_toArray, List.set_cons_zero, List.set_cons_succ]
              refine wpAnyH_take (i := 20) (v := ?vc20) (List.getElem?_toArray.trans rfl) (by kernel_rfl) (by kernel_rfl) (by kernel_rfl) (fun _ _ _ h => h) (Or.inl ⟨by rfl, ?yc20⟩) (by assumption) ?rc20
              case yc20 => (intro w hSw; (try dsimp only at hSw); go_simp; try with_reducible rfl)
              try simp only [Act.put, List.setIfInBounds_toArray, List.set_cons_zero, List.set_cons_succ]
              refine wpAnyH_take (i := 21) (v := ?vc21) (List.getElem?_toArray.trans rfl) (by kernel_rfl) (by kernel_rfl) (by kernel_rfl) (fun _ _ _ h => h) (Or.inl ⟨by rfl, ?yc21⟩) (by assumption) ?rc21
              case yc21 => (intro w hSw; (try dsimp only at hSw); go_simp; try with_reducible rfl)
              try simp only [Act.put, List.setIfInBounds_toArray, List.set_cons_zero, List.set_cons_succ]
              refine wpAnyH_take (i := 22) (v := ?vc22) (List.getElem?_toArray.trans rfl) (by kernel_rfl) (by kernel_rfl) (by kernel_rfl) (fun _ _ _ h => h) (Or.inl ⟨by rfl, ?yc22⟩) (by assumption) ?rc22
              case yc22 => (intro w hSw; (try dsimp only at hSw); go_simp; try with_reducible rfl)
              try simp only [Act.put, List.setIfInBounds_toArray, List.set_cons_zero, List.set_cons_succ]
              refine wpAnyH_take (i := 23) (v := ?vc23) (List.getElem?_toArray.trans rfl) (by kernel_rfl) (by kernel_rfl) (by kernel_rfl) (fun _ _ _ h => h) (Or.inl ⟨by rfl, ?yc23⟩) (by assumption) ?rc23
              case yc23 => (intro w hSw; (try dsimp only at hSw); go_simp; try with_reducible rfl)
              try simp only [Act.put, List.setIfInBounds_toArray, List.set_cons_zero, List.set_cons_succ]
              refine wpAnyH_take (i := 24) (v := .int .i64 kq) (List.getElem?_toArray.trans rfl) (by kernel_rfl) (by kernel_rfl) (by kernel_rfl) (fun _ _ _ h => h) (Or.inl ⟨by rfl, ?yc24⟩) (by assumption) ?rc24
              case yc24 => (intro w hSw; (try dsimp only at hSw); go_simp; try simp [hSw])
              try simp only [Act.put, List.setIfInBounds_toArray, List.set_cons_zero, List.set_cons_succ]
              refine wpAnyH_take (i := 25) (v := .bool false) (List.getElem?_toArray.trans rfl) (by kernel_rfl) (by kernel_rfl) (by kernel_rfl) (fun _ _ _ h => h) (Or.inl ⟨by rfl, ?yc25⟩) (by assumption) ?rc25
              case yc25 => (intro w hSw; (try dsimp only at hSw); go_simp; try simp [hSw, e1])
              try simp only [Act.put, List.setIfInBounds_toArray, List.set_cons_zero, List.set_cons_succ]
              refine wpAnyH_take (i := 26) (v := ?vc26) (List.getElem?_toArray.trans rfl) (by kernel_rfl) (by kernel_rfl) (by kernel_rfl) (fun _ _ _ h => h) (Or.inl ⟨by rfl, ?yc26⟩) (by assumption) ?rc26
              case yc26 => (intro w hSw; (try dsimp only at hSw); go_simp; try with_reducible rfl)
              try simp only [Act.put, List.setIfInBounds_toArray, List.set_cons_zero, List.set_cons_succ]
              refine wpAnyH_take (i := 27) (v := undef) (List.getElem?_toArray.trans rfl) (by kernel_rfl) (by kernel_rfl) (by kernel_rfl) (fun _ _ _ h => h) (Or.inr ⟨by first | (simp [Region.wanted, yielded]; done) | simp [Region.wanted, yielded, undef], rfl⟩) (by assumption) ?_
              try simp only [Act.put, List.setIfInBounds_toArray, List.set_cons_zero, List.set_cons_succ]
              refine wpAnyH_take (i := 28) (v := undef) (List.getElem?_toArray.trans rfl) (by kernel_rfl) (by kernel_rfl) (by kernel_rfl) (fun _ _ _ h => h) (Or.inr ⟨by first | (simp [Region.wanted, yielded]; done) | simp [Region.wanted, yielded, undef], rfl⟩) (by assumption) ?_
              try simp only [Act.put, List.setIfInBounds_toArray, List.set_cons_zero, List.set_cons_succ]
              refine wpAnyH_take (i := 29) (v := undef) (List.getElem?_toArray.trans rfl) (by kernel_rfl) (by kernel_rfl) (by kernel_rfl) (fun _ _ _ h => h) (Or.inr ⟨by first | (simp [Region.wanted, yielded]; done) | simp [Region.wanted, yielded, undef], rfl⟩) (by assumption) ?_
              try simp only [Act.put, List.setIfInBounds_toArray, List.set_cons_zero, List.set_cons_succ]
              refine wpAnyH_take (i := 30) (v := undef) (List.getElem?_toArray.trans rfl) (by kernel_rfl) (by kernel_rfl) (by kernel_rfl) (fun _ _ _ h => h) (Or.inr ⟨by first | (simp [Region.wanted, yielded]; done) | simp [Region.wanted, yielded, undef], rfl⟩) (by assumption) ?_
              try simp only [Act.put, List.setIfInBounds_toArray, List.set_cons_zero, List.set_cons_succ]
              refine wpAnyH_take (i := 31) (v := ?vc31) (List.getElem?_toArray.trans rfl) (by kernel_rfl) (by kernel_rfl) (by kernel_rfl) (fun _ _ _ h => h) (Or.inl ⟨by rfl, ?yc31⟩) (by assumption) ?rc31
              case yc31 => (intro w hSw; (try dsimp only at hSw); go_simp; try with_reducible rfl)
              try simp only [Act.put, List.setIfInBounds_toArray, List.set_cons_zero, List.set_cons_succ]
              refine wpAnyH_take (i := 32) (v := ?vc32) (List.getElem?_toArray.trans rfl) (by kernel_rfl) (by kernel_rfl) (by kernel_rfl) (fun _ _ _ h => h) (Or.inl ⟨by rfl, ?yc32⟩) (by assumption) ?rc32
              case yc32 => (intro w hSw; (try dsimp only at hSw); go_simp; try with_reducible rfl)
              try simp only [Act.put, List.setIfInBounds_toArray, List.set_cons_zero, List.set_cons_succ]
              refine wpAnyH_done (by kernel_rfl) ?_ _
              go_wp2_with fail
              go_meet
              case rel => exact ⟨rfl, hbd⟩
        case rest =>
          obtain ⟨rfl, hb6⟩ := hcut
          have qS := qS.below hb6
          have hB6 := hB5.trans (hb6.mono hB5.size)
          have hBW := hBW.trans (hb6.mono hBW.size)
          clear hStep hwy
          have hS0 := KC.start wc
          go_wp2_with fail
          go_at_call 20
          refine hS0.mono ?_
          intro e w8 hg
          obtain ⟨z1, t1, z2, t2, z3, t3, rfl, hG, hb8⟩ := given_st hg
          have hS1 := KC.state startS w8 z1 t1 z2 t2 z3 t3 hG (by decide) (by decide) (by decide)
          rw [start_ok] at hS1
          have qS := qS.below hb8
          have hB6 := hB6.trans (hb8.mono hB6.size)
          have hBW := hBW.trans (hb8.mono hBW.size)
          clear hg hS0
          go_wp2_with fail
          go_at_call 15
          refine hS1.mono ?_
          rintro e w9 ⟨rfl, hb9⟩
          have qS := qS.below hb9
          have hB6 := hB6.trans (hb9.mono hB6.size)
          have hBW := hBW.trans (hb9.mono hBW.size)
          have hE := hEqS w9 hB6
          rw [same_refl] at hE
          clear hEqS hS1
          obtain ⟨s0, s1, s2, s3⟩ : w9.cell? ⟨bS, 0, none⟩ = some (.int .i64 S.f0) ∧ w9.cell? ⟨bS, 1, none⟩ = some (.slice a1 S.f1.length c1) ∧ w9.cell? ⟨bS, 2, none⟩ = some (.slice a2 S.f2.length c2) ∧ w9.cell? ⟨bS, 3, none⟩ = some (.slice a3 S.f3.length c3) := ⟨qS.at rfl, qS.at rfl, qS.at rfl, qS.at rfl⟩
          go_wp2_with fail
          go_at_call 17
          refine hE.mono ?_
          rintro e wA ⟨rfl, hbA⟩
          have hBF := hBW.trans (hbA.mono hBW.size)
          go_wp2
          go_ret
          exact ⟨rfl, hBF⟩
end Go.Proofs.Ytbohkohccnieiaa.FnMachineW
