/-
  The law FnScripts returns true, and leaves what was there as it was.
  Conditions: the bytes are in memory.
-/
import Derived.Test.YtnadalpehbeopaaDraws10
import Derived.Test.YtnadalpehbeopaaScriptI
import Derived.Test.YtnadalpehbeopaaScriptInts
import Derived.Test.YtnadalpehbeopaaNames
namespace Go.Proofs.Ytnadalpehbeopaa.FnScriptsW
open Go Go.RowKit Go.Proofs.Ytnadalpehbeopaa.Mem Go.Proofs.Ytnadalpehbeopaa.Gen Go.Proofs.Ytnadalpehbeopaa.Draw Go.Proofs.Ytnadalpehbeopaa.Scripts
set_option linter.unusedVariables false

theorem name_here {k : Int} (h0 : 1 ≤ k) (h1 : k ≤ 9) : (nameB k).toList.isEmpty = false := by
  rcases kinds k h0 h1 <;> (rw [ByteArray.toList_eq]; rfl)
theorem kind_of {P : TOp} (h : okO P = true) : 1 ≤ P.f0 ∧ P.f0 ≤ 9 := by
  by_cases hk : 1 ≤ P.f0 ∧ P.f0 ≤ 9
  · exact hk
  · unfold okO at h
    rw [rng_none (by omega)] at h
    cases h
theorem all_of {l : List TOp} {j : Nat} (h : scriptB l = true) (hj : j < l.length) : okO (l.getD j nOp) = true := by
  cases ho : okO (l.getD j nOp) with
  | true => rfl
  | false => rw [scriptB_no hj ho] at h; cases h

set_option maxHeartbeats 4000000 in
set_option maxRecDepth 100000 in
theorem law_walk (a : Option Addr) (n c : Nat) (w : World) (hb0 : Bytes w.heap.size w a n) :
    Calls Try.prog 3 #[.slice a n c] w fun e w' => e = .returned (.bool true) ∧ Below w.heap.size w w' := by
  have hn0 := hb0.1
  by_cases hbig : 1048576 < n
  · go_enter Try.func3, Try.ntmps3
    go_wp2
    go_ret
    exact ⟨rfl, Below.refl _ _⟩
  go_enter Try.func3, Try.ntmps3
  go_wp2_with (go_at_call 9; go_in)
  go_at_call 10
  refine (draw_script _ a n c _ hb0 (Nat.le_refl _)).mono ?_
  rintro e w1 ⟨L, cl, l, rfl, hL, hl17, hb1⟩
  obtain ⟨N, hN⟩ : ∃ N, l.length = N := ⟨_, rfl⟩
  have hS := fun (W : World) (hb : Below w1.heap.size w1 W) => script_impl w.heap.size w1.heap.size W L cl l (hL.below hb) hb.size (by omega)
  have hC := fun (W : World) (hb : Below w1.heap.size w1 W) => count_impl w.heap.size w1.heap.size W L cl l (hL.below hb) hb.size (by omega)
  have hI := fun (W : World) (hb : Below w1.heap.size w1 W) => ints_impl w.heap.size w1.heap.size W L cl l (hL.below hb) hb.size (by omega)
  have hok : ∀ j, j < N → scriptB l = true → okO (l.getD j nOp) = true := fun j hj h => all_of h (by omega)
  rw [hN] at hS hC hI hL hl17 ⊢
  obtain ⟨sB, hsB⟩ : ∃ b, scriptB l = b := ⟨_, rfl⟩
  rw [hsB] at hS hok
  have HOK := Lib.hid hok
  clear hN hsB hok
  go_wp2_with fail
  go_loopw [4, 5] (fun s i wr => ∃ j : Nat, j ≤ N ∧ s = .int .i64 (asksTo l j) ∧ i = .int .i64 j ∧ Below w1.heap.size w1 wr) (fun _ i _ => N - (Go.RowKit.intOf i).toNat)
  case atStart => exact ⟨0, Nat.zero_le _, rfl, rfl, Below.refl _ _⟩
  case round =>
    obtain ⟨j, hj, rfl, rfl, hbl⟩ := hrel
    by_cases hlt : j < N
    · obtain ⟨b, off, rfl, _, _, hc, _⟩ := at_Op (hL.below hbl) hlt
      have hle := asks_le l j
      have HS := Lib.hid (show asksTo l (j + 1) = asksTo l j + (if asksB (l.getD j nOp).f0 = true then 1 else 0) from rfl)
      have HO := Lib.hid (HOK.out j hlt)
      obtain ⟨P, hP⟩ : ∃ P, l.getD j nOp = P := ⟨_, rfl⟩
      rw [hP] at hc HS HO
      have c0 := hc.c0
      have hA := fun W => asks_impl P.f0 W
      obtain ⟨r1, hr1⟩ : ∃ r, asksB P.f0 = r := ⟨_, rfl⟩
      rw [hr1] at hA HS
      obtain ⟨m, hm'⟩ : ∃ m, asksTo l j = m := ⟨_, rfl⟩
      rw [hm'] at HS hle ⊢
      have hSj := hS _ hbl
      clear hr1 hP hm' hC hI
      cases r1
      all_goals
        go_wp2_with fail
        go_at_call 11
        refine (hA _).mono ?_
        rintro e w2 ⟨rfl, rfl⟩
        go_wp2_with fail
        go_at_call 12
        refine hSj.mono ?_
        rintro e w2 ⟨rfl, hb2⟩
        have hbl2 := hbl.trans (hb2.mono hbl.size)
        have c1 := (hc.below hb2).c0
        cases sB with
        | false =>
          clear c0 c1 hA hSj hS
          go_wp2
          go_roundw
          case rel => exact ⟨j + 1, by omega, by rw [HS.out]; first | simp | go_num, by go_num, hbl2⟩
          case measure => simp [Go.RowKit.intOf]; omega
        | true =>
          have hk := kind_of (HO.out rfl)
          have hn := name_here hk.1 hk.2
          have hN2 := name_impl P.f0 w2
          obtain ⟨s, hs⟩ : ∃ s, nameB P.f0 = s := ⟨_, rfl⟩
          rw [hs] at hn hN2
          clear c0 hA hSj hS hs hk
          go_wp2_with fail
          go_at_call 13
          refine hN2.mono ?_
          rintro e w3 ⟨rfl, hb3⟩
          have hbl3 := hbl2.trans (hb3.mono hbl2.size)
          go_wp2
          go_roundw
          case rel => exact ⟨j + 1, by omega, by rw [HS.out]; first | simp | go_num, by go_num, hbl3⟩
          case measure => simp [Go.RowKit.intOf]; omega
    · have hd : decide ((j : Int) < (N : Int)) = false := by simp; omega
      obtain rfl : j = N := by omega
      have hbw := hb1.trans (hbl.mono hb1.size)
      have hD := draw_name w.heap.size a n c wr ((hb0.below (hb1)).below (hbl)) hbw.size
      go_wp2_with fail
      go_at_call 14
      refine hD.mono ?_
      rintro e w2 ⟨x, hx, rfl, hb2⟩
      have hbl2 := hbl.trans (hb2.mono hbl.size)
      have hbw2 := hbw.trans (hb2.mono hbw.size)
      have hCc := hC _ hbl2
      obtain ⟨k, hk⟩ : ∃ k, (x : Int) - 1 = k := ⟨_, rfl⟩
      obtain ⟨m, hm⟩ : ∃ m, asksTo l j = m := ⟨_, rfl⟩
      rw [hk]
      rw [hm] at hCc ⊢
      clear hk hm hD hS hC HOK hx hd
      go_wp2_with fail
      go_at_call 15
      refine hCc.mono ?_
      rintro e w3 ⟨rfl, hb3⟩
      have hbl3 := hbl2.trans (hb3.mono hbl2.size)
      have hbw3 := hbw2.trans (hb3.mono hbw2.size)
      have hIi := hI _ hbl3
      obtain ⟨q, hq⟩ : ∃ q, 4 * j = q := ⟨_, rfl⟩
      rw [hq] at hIi
      have he : ((q : Int) == 4 * (j : Int)) = true := by simp; omega
      clear hI hCc hq
      go_wp2_with fail
      go_at_call 16
      refine hIi.mono ?_
      rintro e w4 ⟨A5, c5, rfl, _, _, _, hb4⟩
      have hbw4 := hbw3.trans (hb4.mono hbw3.size)
      have hA := fun W => asks_impl k W
      have hNm := fun W => name_impl k W
      have hne : asksB k = true → (nameB k).toList.isEmpty = false := fun h => by
        unfold asksB inR at h
        simp at h
        exact name_here (by omega) (by omega)
      obtain ⟨r, hr⟩ : ∃ r, asksB k = r := ⟨_, rfl⟩
      obtain ⟨s, hs⟩ : ∃ s, nameB k = s := ⟨_, rfl⟩
      rw [hr] at hA hne
      rw [hs] at hNm hne
      clear hr hs hIi hL
      go_wp2_with fail
      go_at_call 11
      refine (hA _).mono ?_
      rintro e w5 ⟨rfl, rfl⟩
      cases r with
      | false =>
        go_wp2
        go_ret
        exact ⟨rfl, hbw4⟩
      | true =>
        have hne := hne rfl
        go_wp2_with fail
        go_at_call 13
        refine (hNm _).mono ?_
        rintro e w6 ⟨rfl, hb6⟩
        go_wp2
        go_ret
        exact ⟨rfl, hbw4.trans (hb6.mono hbw4.size)⟩
end Go.Proofs.Ytnadalpehbeopaa.FnScriptsW
