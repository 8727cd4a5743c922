/-
  The law FnSites returns true, and leaves what was there as it was.
  Conditions: the bytes are in memory.
-/
import Derived.Test.YtldpgkbemgpacaaSited
import Derived.Test.YtldpgkbemgpacaaSteadyI
import Derived.Test.YtldpgkbemgpacaaFollowI
import Derived.Test.YtldpgkbemgpacaaHasS
import Derived.Deep.CutBlock
namespace Go.Proofs.Ytldpgkbemgpacaa.FnSitesW
open Go Go.RowKit Go.Proofs.Ytldpgkbemgpacaa.Mem Go.Proofs.Ytldpgkbemgpacaa.Gen Go.Proofs.Ytldpgkbemgpacaa.Adr Go.Proofs.Ytldpgkbemgpacaa.Res Go.Proofs.Ytldpgkbemgpacaa.Draw Go.Proofs.Ytldpgkbemgpacaa.Sites
set_option linter.unusedVariables false

theorem asked_lies {m : Nat} {w : World} {e : Ending} {w' : World} (hm : m ≤ 100) (h : Asked m w e w') :
    ∃ (L : Option Addr) (c : Nat) (l : List TVersion) (A : TAddress) (t : Int), e = .returned (.tuple #[.slice L l.length c, .agg #[.int .i64 A.f0, .int .i64 A.f1, .int .i64 A.f2], .int .i64 t]) ∧ Lies 0 w'.heap.size w' (dVersion l) (.slice L l.length c) ∧ room (dVersion l) ≤ 1048576 ∧ (∀ P ∈ l, 0 ≤ P.f1) ∧ WfA A ∧ t ≤ 1000 ∧ Below w.heap.size w w' := by
  obtain ⟨v, l, A, t, base, rfl, _, _, hbuf, hlen, hsm, hA, ht, hb⟩ := h
  obtain ⟨L, c, rfl, _, _⟩ := hbuf.shape
  refine ⟨L, c, l, A, t, rfl, (show Lies base w'.heap.size w' (dVersion l) _ from hbuf.owns.lies).more (Nat.zero_le _) (Nat.le_refl _), ?_, fun P hP => (hsm P hP).2.1, hA, by omega, hb⟩
  have := room_small hsm
  omega

set_option maxHeartbeats 8000000 in
set_option maxRecDepth 100000 in
theorem law_walk (a : Option Addr) (n c : Nat) (w : World) (hb0 : Bytes w.heap.size w a n) :
    Calls Try.prog 3 #[.slice a n c] w fun e w' => e = .returned (.bool true) ∧ Below w.heap.size w w' := by
  have hn0 := hb0.1
  by_cases hbig : 1048576 < n
  · go_enter Try.func3, Try.ntmps3
    go_wp2
    go_ret
    exact ⟨rfl, Below.refl _ _⟩
  go_enter Try.func3, Try.ntmps3
  go_wp2_with (go_at_call 9; go_in)
  go_at_call 10
  refine (draw_answer _ a n c _ hb0 (Nat.le_refl _)).mono ?_
  intro e w1 hask
  obtain ⟨L, cl, l, A, t, rfl, hL, hm, hf, hA, ht, hb1⟩ := asked_lies (by omega) hask
  clear hask
  have hbw : Below w1.heap.size w1 (w1.alloc (.cells #[.int .i64 A.f0, .int .i64 A.f1, .int .i64 A.f2] 26)) := (Below.refl _ _).alloc (Nat.le_refl _) _
  have qA := Blk.new 26 (adrCells A) w1
  obtain ⟨W, hW⟩ : ∃ W, w1.alloc (.cells #[.int .i64 A.f0, .int .i64 A.f1, .int .i64 A.f2] 26) = W := ⟨_, rfl⟩
  have hW' : w1.alloc (.cells (adrCells A).toArray 26) = W := hW
  rw [hW] at hbw
  rw [hW'] at qA
  have hL := hL.below hbw
  have hzW := hbw.size
  have hbW := hb1.trans (hbw.mono hb1.size)
  have HW := Lib.hid hW
  have hans := fun s => ans_wf hL A s
  have hans0 := fun s => ans_wf0 hL A s
  have hlen := room_answer l A t _ (Nat.le_refl _)
  obtain ⟨NL, hNL⟩ : ∃ NL, l.length = NL := ⟨_, rfl⟩
  have hAns := fun (w' : World) (hb : Below W.heap.size W w') (s : Int) => answer_impl 0 w1.heap.size w' L cl l (hL.below hb) (by have := hb.size; omega) hm A hA s
  have hSte := fun (w' : World) (hb : Below W.heap.size W w') (u v : Int) => steady_impl 0 w1.heap.size w' L cl l (hL.below hb) (by have := hb.size; omega) hm A hA u v
  have hChg := fun (w' : World) (hb : Below W.heap.size W w') => changes_impl 0 w1.heap.size w' L cl l (hL.below hb) (by have := hb.size; omega) hm A hA
  simp only [hNL] at hAns hSte hChg
  have hA0 := hAns W (Below.refl _ _) t
  have hwR := hans t
  have hwR0 := hans0 t
  have hlen : (answer l A t).f1.length ≤ 1048576 := Nat.le_trans hlen hm
  obtain ⟨R, hR⟩ : ∃ R, answer l A t = R := ⟨_, rfl⟩
  rw [hR] at hA0 hwR hwR0 hlen
  have HR := Lib.hid hR
  obtain ⟨T, hT⟩ : ∃ T, ticks (past l A) = T := ⟨_, rfl⟩
  have hasc := (ticks_all (past l A)).1
  rw [hT] at hasc
  simp only [hT] at hChg
  have HT := Lib.hid hT
  have HM := Lib.hid hm
  have HF := Lib.hid hf
  have HASC := Lib.hid hasc
  clear hm hf hT hR hasc hW hW' hL hb1
  go_wp2_with fail
  rw [HW.out]
  go_at_call 11
  refine hA0.mono ?_
  rintro e w2 ⟨sr, dr, rfl, ho2, hb2⟩
  have hbw : Below w2.heap.size w2 (w2.alloc (.cells #[.int .i64 R.f0, .slice sr R.f1.length dr, .int .i64 R.f2.f0, .int .i64 R.f2.f1, .int .i64 R.f2.f2] 31)) := (Below.refl _ _).alloc (Nat.le_refl _) _
  have qR := Blk.new 31 (resCells R sr dr) w2
  obtain ⟨W2, hW2⟩ : ∃ W2, w2.alloc (.cells #[.int .i64 R.f0, .slice sr R.f1.length dr, .int .i64 R.f2.f0, .int .i64 R.f2.f1, .int .i64 R.f2.f2] 31) = W2 := ⟨_, rfl⟩
  have hW2' : w2.alloc (.cells (resCells R sr dr).toArray 31) = W2 := hW2
  rw [hW2] at hbw
  rw [hW2'] at qR
  have qA := (qA.below hb2).below hbw
  have hz2 := hb2.size
  have hb2 := hb2.trans (hbw.mono hz2)
  have hrR := ho2.lies.row'.1.below hbw
  obtain ⟨a0, a1, a2⟩ : W2.cell? ⟨w1.heap.size, 0, none⟩ = some (.int .i64 A.f0) ∧ W2.cell? ⟨w1.heap.size, 1, none⟩ = some (.int .i64 A.f1) ∧ W2.cell? ⟨w1.heap.size, 2, none⟩ = some (.int .i64 A.f2) := ⟨qA.at rfl, qA.at rfl, qA.at rfl⟩
  have hC := hChg W2 hb2
  obtain ⟨m, hm⟩ : ∃ m, T.length = m := ⟨_, rfl⟩
  rw [hm] at hC
  have HMM := Lib.hid hm
  clear hm
  have HW2 := Lib.hid hW2
  have hz2' := hb2.size
  have hzb := hbw.size
  clear hW2 hW2' ho2 hChg hbw hA0
  go_upto_region 5 with fail
  rw [HW2.out]
  go_wp2_with fail
  go_at_call 12
  refine hC.mono ?_
  rintro e w3 ⟨ac, cc, rfl, ho3, hm1, hm2, hb3⟩
  have hmm : m ≤ 9223372036854775807 := by unfold maxLen at hm2; omega
  have qA := qA.below hb3
  have qR := qR.below hb3
  have hrR := hrR.below hb3
  have hb3 := hb2.trans (hb3.mono hz2')
  have hbx := hbW.trans (hb3.mono hbW.size)
  have hrow := ho3.row
  clear ho3 hC a0 a1 a2
  go_wp2_with fail
  go_loop [8, 9] (fun z i => ∃ (k : Nat) (y : Int), k ≤ m ∧ i = .int .i64 k ∧ z = .int .i64 y ∧ Hid (LastOf T t k y)) (fun _ i => m - (Go.RowKit.intOf i).toNat)
  case atStart => exact ⟨0, -1, Nat.zero_le _, rfl, rfl, Lib.hid (LastOf.zero T t)⟩
  case round =>
    obtain ⟨k, z, hk, rfl, rfl, hlast⟩ := hrel
    by_cases hlt : k < m
    · obtain ⟨b, off, rfl, _, _, hc⟩ := hrow.cell hlt
      have HYES := Lib.hid (fun h => LastOf.yes (t := t) HASC.out (show k < T.length by rw [HMM.out]; exact hlt) h)
      have HNO := Lib.hid (fun h => LastOf.no hlast.out h)
      obtain ⟨q, hq⟩ : ∃ q, T.getD k 0 = q := ⟨_, rfl⟩
      rw [hq] at hc HYES HNO
      clear hq hlast
      by_cases hit : q ≤ t
      · have hd : decide (q ≤ t) = true := by simpa using hit
        go_wp2
        go_round
        case rel => exact ⟨k + 1, q, by omega, by go_num, rfl, Lib.hid (HYES.out hit)⟩
        case measure => simp [Go.RowKit.intOf]; omega
      · have hd : decide (q ≤ t) = false := by simpa using hit
        go_wp2
        go_round
        case rel => exact ⟨k + 1, z, by omega, by go_num, rfl, Lib.hid (HNO.out hit)⟩
        case measure => simp [Go.RowKit.intOf]; omega
    · have hkm : k = m := by omega
      have hEND := last_end HF.out ht (show k = (ticks (past l A)).length by rw [HT.out, HMM.out]; exact hkm) (by rw [HT.out]; exact hlast.out)
      rw [HR.out] at hEND
      clear hkm hlast hk
      have HEND := Lib.hid hEND
      clear hEND
      go_upto_region 12 with fail
      go_cut [76] (fun s wx => s = .bool false ∧ Below w.heap.size w wx)
      case first =>
        obtain ⟨Wd, hWd⟩ : ∃ Wd, w3.drew = Wd := ⟨_, rfl⟩
        have qAd : Blk 26 w1.heap.size (adrCells A) Wd := by rw [← hWd]; exact qA.drew
        have qRd : Blk 31 w2.heap.size (resCells R sr dr) Wd := by rw [← hWd]; exact qR.drew
        have hrd : Row .i64 W.heap.size w2.heap.size Wd sr R.f1.length R.f1 := by rw [← hWd]; exact hrR.drewN 1
        have hbd : Below W.heap.size W Wd := by rw [← hWd]; exact gbelow_drewN hb3 1
        have hbxd : Below w.heap.size w Wd := by rw [← hWd]; exact gbelow_drewN hbx 1
        rcases HEND.out with ⟨hz, hRe⟩ | ⟨hz, hzt, hRz, hst⟩
        · have hd : decide (0 ≤ z) = false := by simp; omega
          have hd1 : decide (z ≥ 0) = false := by simp; omega
          have hd2 : decide (z < 0) = true := by simpa using hz
          have r0 : w3.cell? ⟨w2.heap.size, 0, none⟩ = some (.int .i64 4) := by have h : w3.cell? ⟨w2.heap.size, 0, none⟩ = some (.int .i64 R.f0) := qR.at rfl; rw [hRe] at h; exact h
          go_quiet (fail)
          go_wp2_with fail
          go_meet
          case rel => exact ⟨rfl, gbelow_drewN hbx _⟩
        · have hd : decide (0 ≤ z) = true := by simpa using hz
          have hd1 : decide (z ≥ 0) = true := by simpa using hz
          have hd2 : decide (z < 0) = false := by simp; omega
          have hA1 := fun w' hb => hAns w' hb z
          have hS1 := fun w' hb => hSte w' hb z t
          simp only [hRz] at hA1
          simp only [hst] at hS1
          clear hAns hSte hRz hst
          have HA1 := Lib.hid hA1
          have HS1 := Lib.hid hS1
          clear hA1 hS1
          refine wp_region_held_drew (S := (fun w' => w'.cell? ⟨w1.heap.size, 0, none⟩ = some (.int .i64 A.f0) ∧ w'.cell? ⟨w1.heap.size, 1, none⟩ = some (.int .i64 A.f1) ∧ w'.cell? ⟨w1.heap.size, 2, none⟩ = some (.int .i64 A.f2) ∧ w'.cell? ⟨w2.heap.size, 0, none⟩ = some (.int .i64 R.f0) ∧ w'.cell? ⟨w2.heap.size, 1, none⟩ = some (.slice sr R.f1.length dr) ∧ w'.cell? ⟨w2.heap.size, 2, none⟩ = some (.int .i64 R.f2.f0) ∧ w'.cell? ⟨w2.heap.size, 3, none⟩ = some (.int .i64 R.f2.f1) ∧ w'.cell? ⟨w2.heap.size, 4, none⟩ = some (.int .i64 R.f2.f2))) (by kernel_rfl) (by rw [hWd]; exact ⟨qAd.at rfl, qAd.at rfl, qAd.at rfl, qRd.at rfl, qRd.at rfl, qRd.at rfl, qRd.at rfl, qRd.at rfl⟩) (fun hHeld => ?_)
          rw [hWd] at hHeld ⊢
          refine wpAnyH_take (i := 0) (v := ?va0) (List.getElem?_toArray.trans rfl) (by kernel_rfl) (by kernel_rfl) (by kernel_rfl) (fun _ _ _ h => h) (Or.inl ⟨by rfl, ?ya0⟩) (by assumption) ?ra0
          case ya0 => (intro w hSw; (try dsimp only at hSw); go_simp; try with_reducible rfl)
          try simp only [Act.put, List.setIfInBounds_toArray, List.set_cons_zero, List.set_cons_succ]
          refine wpAnyH_take (i := 1) (v := .bool true) (List.getElem?_toArray.trans rfl) (by kernel_rfl) (by kernel_rfl) (by kernel_rfl) (fun _ _ _ h => h) (Or.inl ⟨by rfl, ?ya1⟩) (by assumption) ?ra1
          case ya1 => (intro w hSw; (try dsimp only at hSw); go_simp; try simp [hd])
          try simp only [Act.put, List.setIfInBounds_toArray, List.set_cons_zero, List.set_cons_succ]
          refine wpAnyH_take (i := 2) (v := ?va2) (List.getElem?_toArray.trans rfl) (by kernel_rfl) (by kernel_rfl) (by kernel_rfl) (fun _ _ _ h => h) (Or.inl ⟨by rfl, ?ya2⟩) (by assumption) ?ra2
          case ya2 => (intro w hSw; (try dsimp only at hSw); go_simp; try with_reducible rfl)
          try simp only [Act.put, List.setIfInBounds_toArray, List.set_cons_zero, List.set_cons_succ]
          refine wpAnyH_take (i := 3) (v := .agg #[.int .i64 R.f0, .slice sr R.f1.length dr, .int .i64 R.f2.f0, .int .i64 R.f2.f1, .int .i64 R.f2.f2]) (List.getElem?_toArray.trans rfl) (by kernel_rfl) (by kernel_rfl) (by kernel_rfl) (fun _ _ _ h => h) (Or.inl ⟨by rfl, ?ya3⟩) (by assumption) ?ra3
          case ya3 => (intro w hSw; (try dsimp only at hSw); go_simp; try simp [hSw])
          try simp only [Act.put, List.setIfInBounds_toArray, List.set_cons_zero, List.set_cons_succ]
          refine wpAnyH_take (i := 4) (v := ?va4) (List.getElem?_toArray.trans rfl) (by kernel_rfl) (by kernel_rfl) (by kernel_rfl) (fun _ _ _ h => h) (Or.inl ⟨by rfl, ?ya4⟩) (by assumption) ?ra4
          case ya4 => (intro w hSw; (try dsimp only at hSw); go_simp; try with_reducible rfl)
          try simp only [Act.put, List.setIfInBounds_toArray, List.set_cons_zero, List.set_cons_succ]
          refine wpAnyH_take (i := 5) (v := .agg #[.int .i64 A.f0, .int .i64 A.f1, .int .i64 A.f2]) (List.getElem?_toArray.trans rfl) (by kernel_rfl) (by kernel_rfl) (by kernel_rfl) (fun _ _ _ h => h) (Or.inl ⟨by rfl, ?ya5⟩) (by assumption) ?ra5
          case ya5 => (intro w hSw; (try dsimp only at hSw); go_simp; try simp [hSw])
          try simp only [Act.put, List.setIfInBounds_toArray, List.set_cons_zero, List.set_cons_succ]
          refine wpAnyH_take (i := 6) (v := ?va6) (List.getElem?_toArray.trans rfl) (by kernel_rfl) (by kernel_rfl) (by kernel_rfl) (fun _ _ _ h => h) (Or.inl ⟨by rfl, ?ya6⟩) (by assumption) ?ra6
          case ya6 => (intro w hSw; (try dsimp only at hSw); go_simp; try with_reducible rfl)
          try simp only [Act.put, List.setIfInBounds_toArray, List.set_cons_zero, List.set_cons_succ]
          refine wpAnyH_ready (rs := [7]) (by kernel_rfl) (by simp) ?_
          refine AllReadyH.cons (List.getElem?_toArray.trans rfl) (fun K hK => ?_) AllReadyH.nil
          go_simp
          go_at_call 11
          refine (HA1.out Wd hbd).mono ?_
          rintro e w4 ⟨s4, d4, rfl, ho4, hb4⟩
          have qAd := Blk.below (w := Wd) qAd hb4
          have qRd := Blk.below (w := Wd) qRd hb4
          have hrd := Row.below (w := Wd) hrd hb4
          have hr4 := ho4.lies.row'.1
          have hbd := Below.trans (b := Wd) hbd (Below.mono (w := Wd) hb4 hbd.size)
          have hbxd := Below.trans (b := Wd) hbxd (Below.mono (w := Wd) hb4 hbxd.size)
          have s9 : w4.cell? ⟨w1.heap.size, 0, none⟩ = some (.int .i64 A.f0) ∧ w4.cell? ⟨w1.heap.size, 1, none⟩ = some (.int .i64 A.f1) ∧ w4.cell? ⟨w1.heap.size, 2, none⟩ = some (.int .i64 A.f2) ∧ w4.cell? ⟨w2.heap.size, 0, none⟩ = some (.int .i64 R.f0) ∧ w4.cell? ⟨w2.heap.size, 1, none⟩ = some (.slice sr R.f1.length dr) ∧ w4.cell? ⟨w2.heap.size, 2, none⟩ = some (.int .i64 R.f2.f0) ∧ w4.cell? ⟨w2.heap.size, 3, none⟩ = some (.int .i64 R.f2.f1) ∧ w4.cell? ⟨w2.heap.size, 4, none⟩ = some (.int .i64 R.f2.f2) := ⟨qAd.at rfl, qAd.at rfl, qAd.at rfl, qRd.at rfl, qRd.at rfl, qRd.at rfl, qRd.at rfl, qRd.at rfl⟩
          refine hK.out _ _ s9 (fun hHeld => ?_)
          clear hK K
          try simp only [Act.put, List.setIfInBounds_toArray, List.set_cons_zero, List.set_cons_succ]
          refine wpAnyH_ready (rs := [8]) (by kernel_rfl) (by simp) ?_
          refine AllReadyH.cons (List.getElem?_toArray.trans rfl) (fun K hK => ?_) AllReadyH.nil
          go_simp
          go_at_call 13
          refine (alike_impl _ _ _ _ R.f0 R.f2.f0 R.f2.f1 R.f2.f2 R.f0 R.f2.f0 R.f2.f1 R.f2.f2 w4 sr s4 R.f1.length dr R.f1.length d4 R.f1 R.f1 hrd hr4 hlen hlen hwR0 hwR.1 hwR.2.1 hwR.2.2 hwR0 hwR.1 hwR.2.1 hwR.2.2).mono ?_
          rw [decide_eq_true (show R.f0 = R.f0 ∧ (R.f2.f0 = R.f2.f0 ∧ R.f2.f1 = R.f2.f1 ∧ R.f2.f2 = R.f2.f2) ∧ R.f1 = R.f1 from ⟨rfl, ⟨rfl, rfl, rfl⟩, rfl⟩)]
          rintro e w5 ⟨rfl, hb5⟩
          have qAd := Blk.below (w := w4) qAd hb5
          have qRd := Blk.below (w := w4) qRd hb5
          have hbd := Below.trans (b := w4) hbd (Below.mono (w := w4) hb5 hbd.size)
          have hbxd := Below.trans (b := w4) hbxd (Below.mono (w := w4) hb5 hbxd.size)
          have s9 : w5.cell? ⟨w1.heap.size, 0, none⟩ = some (.int .i64 A.f0) ∧ w5.cell? ⟨w1.heap.size, 1, none⟩ = some (.int .i64 A.f1) ∧ w5.cell? ⟨w1.heap.size, 2, none⟩ = some (.int .i64 A.f2) ∧ w5.cell? ⟨w2.heap.size, 0, none⟩ = some (.int .i64 R.f0) ∧ w5.cell? ⟨w2.heap.size, 1, none⟩ = some (.slice sr R.f1.length dr) ∧ w5.cell? ⟨w2.heap.size, 2, none⟩ = some (.int .i64 R.f2.f0) ∧ w5.cell? ⟨w2.heap.size, 3, none⟩ = some (.int .i64 R.f2.f1) ∧ w5.cell? ⟨w2.heap.size, 4, none⟩ = some (.int .i64 R.f2.f2) := ⟨qAd.at rfl, qAd.at rfl, qAd.at rfl, qRd.at rfl, qRd.at rfl, qRd.at rfl, qRd.at rfl, qRd.at rfl⟩
          refine hK.out _ _ s9 (fun hHeld => ?_)
          clear hK K
          try simp only [Act.put, List.setIfInBounds_toArray, List.set_cons_zero, List.set_cons_succ]
          refine wpAnyH_take (i := 9) (v := ?va9) (List.getElem?_toArray.trans rfl) (by kernel_rfl) (by kernel_rfl) (by kernel_rfl) (fun _ _ _ h => h) (Or.inl ⟨by rfl, ?ya9⟩) (by assumption) ?ra9
          case ya9 => (intro w hSw; (try dsimp only at hSw); go_simp; try with_reducible rfl)
          try simp only [Act.put, List.setIfInBounds_toArray, List.set_cons_zero, List.set_cons_succ]
          refine wpAnyH_take (i := 10) (v := ?va10) (List.getElem?_toArray.trans rfl) (by kernel_rfl) (by kernel_rfl) (by kernel_rfl) (fun _ _ _ h => h) (Or.inl ⟨by rfl, ?ya10⟩) (by assumption) ?ra10
          case ya10 => (intro w hSw; (try dsimp only at hSw); go_simp; try with_reducible rfl)
          try simp only [Act.put, List.setIfInBounds_toArray, List.set_cons_zero, List.set_cons_succ]
          refine wpAnyH_take (i := 11) (v := ?va11) (List.getElem?_toArray.trans rfl) (by kernel_rfl) (by kernel_rfl) (by kernel_rfl) (fun _ _ _ h => h) (Or.inl ⟨by rfl, ?ya11⟩) (by assumption) ?ra11
          case ya11 => (intro w hSw; (try dsimp only at hSw); go_simp; try with_reducible rfl)
          try simp only [Act.put, List.setIfInBounds_toArray, List.set_cons_zero, List.set_cons_succ]
          refine wpAnyH_take (i := 12) (v := .agg #[.int .i64 A.f0, .int .i64 A.f1, .int .i64 A.f2]) (List.getElem?_toArray.trans rfl) (by kernel_rfl) (by kernel_rfl) (by kernel_rfl) (fun _ _ _ h => h) (Or.inl ⟨by rfl, ?ya12⟩) (by assumption) ?ra12
          case ya12 => (intro w hSw; (try dsimp only at hSw); go_simp; try simp [hSw])
          try simp only [Act.put, List.setIfInBounds_toArray, List.set_cons_zero, List.set_cons_succ]
          refine wpAnyH_take (i := 13) (v := ?va13) (List.getElem?_toArray.trans rfl) (by kernel_rfl) (by kernel_rfl) (by kernel_rfl) (fun _ _ _ h => h) (Or.inl ⟨by rfl, ?ya13⟩) (by assumption) ?ra13
          case ya13 => (intro w hSw; (try dsimp only at hSw); go_simp; try with_reducible rfl)
          try simp only [Act.put, List.setIfInBounds_toArray, List.set_cons_zero, List.set_cons_succ]
          refine wpAnyH_take (i := 14) (v := ?va14) (List.getElem?_toArray.trans rfl) (by kernel_rfl) (by kernel_rfl) (by kernel_rfl) (fun _ _ _ h => h) (Or.inl ⟨by rfl, ?ya14⟩) (by assumption) ?ra14
          case ya14 => (intro w hSw; (try dsimp only at hSw); go_simp; try with_reducible rfl)
          try simp only [Act.put, List.setIfInBounds_toArray, List.set_cons_zero, List.set_cons_succ]
          refine wpAnyH_ready (rs := [15]) (by kernel_rfl) (by simp) ?_
          refine AllReadyH.cons (List.getElem?_toArray.trans rfl) (fun K hK => ?_) AllReadyH.nil
          go_simp
          go_at_call 14
          refine (HS1.out w5 hbd).mono ?_
          rintro e w6 ⟨rfl, hb6⟩
          have qAd := Blk.below (w := w5) qAd hb6
          have qRd := Blk.below (w := w5) qRd hb6
          have hbxd := Below.trans (b := w5) hbxd (Below.mono (w := w5) hb6 hbxd.size)
          have s9 : w6.cell? ⟨w1.heap.size, 0, none⟩ = some (.int .i64 A.f0) ∧ w6.cell? ⟨w1.heap.size, 1, none⟩ = some (.int .i64 A.f1) ∧ w6.cell? ⟨w1.heap.size, 2, none⟩ = some (.int .i64 A.f2) ∧ w6.cell? ⟨w2.heap.size, 0, none⟩ = some (.int .i64 R.f0) ∧ w6.cell? ⟨w2.heap.size, 1, none⟩ = some (.slice sr R.f1.length dr) ∧ w6.cell? ⟨w2.heap.size, 2, none⟩ = some (.int .i64 R.f2.f0) ∧ w6.cell? ⟨w2.heap.size, 3, none⟩ = some (.int .i64 R.f2.f1) ∧ w6.cell? ⟨w2.heap.size, 4, none⟩ = some (.int .i64 R.f2.f2) := ⟨qAd.at rfl, qAd.at rfl, qAd.at rfl, qRd.at rfl, qRd.at rfl, qRd.at rfl, qRd.at rfl, qRd.at rfl⟩
          refine hK.out _ _ s9 (fun hHeld => ?_)
          clear hK K
          try simp only [Act.put, List.setIfInBounds_toArray, List.set_cons_zero, List.set_cons_succ]
          refine wpAnyH_take (i := 16) (v := ?va16) (List.getElem?_toArray.trans rfl) (by kernel_rfl) (by kernel_rfl) (by kernel_rfl) (fun _ _ _ h => h) (Or.inl ⟨by rfl, ?ya16⟩) (by assumption) ?ra16
          case ya16 => (intro w hSw; (try dsimp only at hSw); go_simp; try with_reducible rfl)
          try simp only [Act.put, List.setIfInBounds_toArray, List.set_cons_zero, List.set_cons_succ]
          refine wpAnyH_take (i := 17) (v := ?va17) (List.getElem?_toArray.trans rfl) (by kernel_rfl) (by kernel_rfl) (by kernel_rfl) (fun _ _ _ h => h) (Or.inl ⟨by rfl, ?ya17⟩) (by assumption) ?ra17
          case ya17 => (intro w hSw; (try dsimp only at hSw); go_simp; try with_reducible rfl)
          try simp only [Act.put, List.setIfInBounds_toArray, List.set_cons_zero, List.set_cons_succ]
          refine wpAnyH_take (i := 18) (v := ?va18) (List.getElem?_toArray.trans rfl) (by kernel_rfl) (by kernel_rfl) (by kernel_rfl) (fun _ _ _ h => h) (Or.inl ⟨by rfl, ?ya18⟩) (by assumption) ?ra18
          case ya18 => (intro w hSw; (try dsimp only at hSw); go_simp; try with_reducible rfl)
          try simp only [Act.put, List.setIfInBounds_toArray, List.set_cons_zero, List.set_cons_succ]
          refine wpAnyH_take (i := 19) (v := ?va19) (List.getElem?_toArray.trans rfl) (by kernel_rfl) (by kernel_rfl) (by kernel_rfl) (fun _ _ _ h => h) (Or.inl ⟨by rfl, ?ya19⟩) (by assumption) ?ra19
          case ya19 => (intro w hSw; (try dsimp only at hSw); go_simp; try with_reducible rfl)
          try simp only [Act.put, List.setIfInBounds_toArray, List.set_cons_zero, List.set_cons_succ]
          refine wpAnyH_take (i := 20) (v := ?va20) (List.getElem?_toArray.trans rfl) (by kernel_rfl) (by kernel_rfl) (by kernel_rfl) (fun _ _ _ h => h) (Or.inl ⟨by rfl, ?ya20⟩) (by assumption) ?ra20
          case ya20 => (intro w hSw; (try dsimp only at hSw); go_simp; try with_reducible rfl)
          try simp only [Act.put, List.setIfInBounds_toArray, List.set_cons_zero, List.set_cons_succ]
          refine wpAnyH_take (i := 21) (v := .bool false) (List.getElem?_toArray.trans rfl) (by kernel_rfl) (by kernel_rfl) (by kernel_rfl) (fun _ _ _ h => h) (Or.inl ⟨by rfl, ?ya21⟩) (by assumption) ?ra21
          case ya21 => (intro w hSw; (try dsimp only at hSw); go_simp; try simp [hd2])
          try simp only [Act.put, List.setIfInBounds_toArray, List.set_cons_zero, List.set_cons_succ]
          refine wpAnyH_take (i := 22) (v := ?va22) (List.getElem?_toArray.trans rfl) (by kernel_rfl) (by kernel_rfl) (by kernel_rfl) (fun _ _ _ h => h) (Or.inl ⟨by rfl, ?ya22⟩) (by assumption) ?ra22
          case ya22 => (intro w hSw; (try dsimp only at hSw); go_simp; try with_reducible rfl)
          try simp only [Act.put, List.setIfInBounds_toArray, List.set_cons_zero, List.set_cons_succ]
          refine wpAnyH_take (i := 23) (v := undef) (List.getElem?_toArray.trans rfl) (by kernel_rfl) (by kernel_rfl) (by kernel_rfl) (fun _ _ _ h => h) (Or.inr ⟨by first | (simp [Region.wanted, yielded]; done) | simp [Region.wanted, yielded, undef], rfl⟩) (by assumption) ?_
          try simp only [Act.put, List.setIfInBounds_toArray, List.set_cons_zero, List.set_cons_succ]
          refine wpAnyH_take (i := 24) (v := undef) (List.getElem?_toArray.trans rfl) (by kernel_rfl) (by kernel_rfl) (by kernel_rfl) (fun _ _ _ h => h) (Or.inr ⟨by first | (simp [Region.wanted, yielded]; done) | simp [Region.wanted, yielded, undef], rfl⟩) (by assumption) ?_
          try simp only [Act.put, List.setIfInBounds_toArray, List.set_cons_zero, List.set_cons_succ]
          refine wpAnyH_take (i := 25) (v := undef) (List.getElem?_toArray.trans rfl) (by kernel_rfl) (by kernel_rfl) (by kernel_rfl) (fun _ _ _ h => h) (Or.inr ⟨by first | (simp [Region.wanted, yielded]; done) | simp [Region.wanted, yielded, undef], rfl⟩) (by assumption) ?_
          try simp only [Act.put, List.setIfInBounds_toArray, List.set_cons_zero, List.set_cons_succ]
          refine wpAnyH_take (i := 26) (v := ?va26) (List.getElem?_toArray.trans rfl) (by kernel_rfl) (by kernel_rfl) (by kernel_rfl) (fun _ _ _ h => h) (Or.inl ⟨by rfl, ?ya26⟩) (by assumption) ?ra26
          case ya26 => (intro w hSw; (try dsimp only at hSw); go_simp; try with_reducible rfl)
          try simp only [Act.put, List.setIfInBounds_toArray, List.set_cons_zero, List.set_cons_succ]
          refine wpAnyH_take (i := 27) (v := ?va27) (List.getElem?_toArray.trans rfl) (by kernel_rfl) (by kernel_rfl) (by kernel_rfl) (fun _ _ _ h => h) (Or.inl ⟨by rfl, ?ya27⟩) (by assumption) ?ra27
          case ya27 => (intro w hSw; (try dsimp only at hSw); go_simp; try with_reducible rfl)
          try simp only [Act.put, List.setIfInBounds_toArray, List.set_cons_zero, List.set_cons_succ]
          refine wpAnyH_done (by kernel_rfl) ?_ _
          go_wp2_with fail
          go_meet
          case rel => exact ⟨rfl, hbxd⟩
      case rest =>
        obtain ⟨rfl, hbc⟩ := hcut
        clear qA qR hrR hrow hbx hb3 hmm HEND hAns hSte hlt hb2 hbW hNL hans hans0
        have hbyc := hb0.below hbc
        go_wp2_with fail
        go_at_call 15
        refine (draw_follow _ a n c _ hbyc hbc.size).mono ?_
        intro e v1 hask
        obtain ⟨L2, c2, s, X, u, rfl, hL2, hm2, _, hX, _, hb1⟩ := asked_lies (by omega) hask
        have hB1 := hbc.trans (hb1.mono hbc.size)
        have hbw : Below v1.heap.size v1 (v1.alloc (.cells #[.int .i64 X.f0, .int .i64 X.f1, .int .i64 X.f2] 26)) := (Below.refl _ _).alloc (Nat.le_refl _) _
        have qX := Blk.new 26 (adrCells X) v1
        obtain ⟨V1, hV1⟩ : ∃ V1, v1.alloc (.cells #[.int .i64 X.f0, .int .i64 X.f1, .int .i64 X.f2] 26) = V1 := ⟨_, rfl⟩
        have hV1' : v1.alloc (.cells (adrCells X).toArray 26) = V1 := hV1
        rw [hV1] at hbw
        rw [hV1'] at qX
        have hL2 := hL2.below hbw
        have hz1 := hbw.size
        have hB1 := hB1.trans (hbw.mono hB1.size)
        have HV1 := Lib.hid hV1
        have hw2 := fun B => ans_wf hL2 B u
        have hw0 := fun B => ans_wf0 hL2 B u
        have hlenA := fun B => Nat.le_trans (room_answer s B u _ (Nat.le_refl _)) hm2
        have hAns2 := fun (w' : World) (hb : Below V1.heap.size V1 w') (B : TAddress) (hB : WfA B) => answer_impl 0 v1.heap.size w' L2 c2 s (hL2.below hb) (by have := hb.size; omega) hm2 B hB u
        have hFol := follow_impl 0 v1.heap.size V1 L2 c2 s hL2 hz1 hm2 X hX u
        have hch := followed_chain s X u
        obtain ⟨RR, hRR⟩ : ∃ RR, followed s X u = RR := ⟨_, rfl⟩
        rw [hRR] at hFol hch
        obtain ⟨Q, f⟩ := RR
        obtain ⟨hch, hq5⟩ := hch
        dsimp only at hch hq5
        obtain ⟨ns, hns⟩ : ∃ ns, s.length = ns := ⟨_, rfl⟩
        simp only [hns] at hAns2 hFol
        obtain ⟨q, hq⟩ : ∃ q, Q.length = q := ⟨_, rfl⟩
        rw [hq] at hq5
        have hq1 := hch.pos
        rw [hq] at hq1
        have HCH := Lib.hid hch
        have HQ := Lib.hid hq
        have HW2 := Lib.hid hw2
        have HW0 := Lib.hid hw0
        have HLA := Lib.hid hlenA
        have HANS := Lib.hid hAns2
        clear hV1 hV1' hRR hch hask hbc hq hw2 hw0 hlenA hAns2 hm2 hL2 hb1 hbyc HF HT HM HR HASC HMM HW
        go_wp2_with fail
        rw [HV1.out]
        go_at_call 16
        refine hFol.mono ?_
        intro e v2 hh
        unfold Sites.Handed at hh
        have hq := HQ.out
        dsimp only at hh
        simp only [hq] at hh
        clear hq
        obtain ⟨x1, y1, S1, xQ, yQ, SQ, rfl, ho1, hoQ, h1, h2, _, hb2⟩ := hh
        have hrF := (show Lies 0 v2.heap.size v2 (ints f.f1) _ from ho1.lies fun t ht => ⟨Nat.zero_le _, (h1 t ht).2⟩).row'.1
        have hLQ : Lies 0 v2.heap.size v2 (dAddress Q) (.slice xQ q yQ) := hoQ.lies fun t ht => ⟨Nat.zero_le _, (h2 t ht).2⟩
        have hbw : Below v2.heap.size v2 (v2.alloc (.cells #[.int .i64 f.f0, .slice x1 f.f1.length y1, .int .i64 f.f2.f0, .int .i64 f.f2.f1, .int .i64 f.f2.f2] 31)) := (Below.refl _ _).alloc (Nat.le_refl _) _
        have qF := Blk.new 31 (resCells f x1 y1) v2
        obtain ⟨V2, hV2⟩ : ∃ V2, v2.alloc (.cells #[.int .i64 f.f0, .slice x1 f.f1.length y1, .int .i64 f.f2.f0, .int .i64 f.f2.f1, .int .i64 f.f2.f2] 31) = V2 := ⟨_, rfl⟩
        have hV2' : v2.alloc (.cells (resCells f x1 y1).toArray 31) = V2 := hV2
        rw [hV2] at hbw
        rw [hV2'] at qF
        have qX := (qX.below hb2).below hbw
        have hrF := hrF.below hbw
        have hLQ := hLQ.below hbw
        have hzb := hbw.size
        have hb2 := hb2.trans (hbw.mono hb2.size)
        have hzV := hb2.size
        have hB2 := hB1.trans (hb2.mono hB1.size)
        have HV2 := Lib.hid hV2
        have hzF := qF.lt
        have hzX := qX.lt
        clear hV2 hV2' ho1 hoQ h1 h2 hbw hFol hB1
        go_upto_region 16 with fail
        rw [HV2.out]
        go_wp2_with fail
        go_loopw [15] (fun i wr => ∃ j : Nat, j ≤ q ∧ i = .int .i64 j ∧ Below V2.heap.size V2 wr) (fun i _ => q - (Go.RowKit.intOf i).toNat)
        case atStart => exact ⟨0, Nat.zero_le _, rfl, Below.refl _ _⟩
        case round =>
          obtain ⟨j, hj, rfl, hbl⟩ := hrel
          by_cases hlt : j < q
          · have hbs := hbl.size
            go_wp2_with fail
            go_loopw [16] (fun i wi => ∃ m : Nat, m ≤ j ∧ i = .int .i64 m ∧ Below V2.heap.size V2 wi) (fun i _ => j - (Go.RowKit.intOf i).toNat)
            case atStart => exact ⟨0, Nat.zero_le _, rfl, hbl⟩
            case round =>
              obtain ⟨m, hmj, rfl, hbi⟩ := hrel
              clear hbl
              obtain ⟨b, off, rfl, _, _, hc, hwP⟩ := at_Address (hLQ.below hbi) hlt
              by_cases hlm : m < j
              · obtain ⟨b', off', he, _, _, hc', _⟩ := at_Address (hLQ.below hbi) (show m < q by omega)
                injection he with he
                injection he with he1 he2
                subst he1 he2
                have hne := HCH.out.dis m j hlm (by rw [HQ.out]; exact hlt)
                have hS : sameA (Q.getD j nAddress) (Q.getD m nAddress) = false := by
                  cases hh : sameA (Q.getD j nAddress) (Q.getD m nAddress) with
                  | false => rfl
                  | true => exact absurd (sameA_iff.1 hh).symm hne
                obtain ⟨P0, hP0⟩ : ∃ P, Q.getD j nAddress = P := ⟨_, rfl⟩
                obtain ⟨P1, hP1⟩ : ∃ P, Q.getD m nAddress = P := ⟨_, rfl⟩
                rw [hP0] at hS hc
                rw [hP1] at hS hc'
                clear hP0 hP1 hne hwP
                obtain ⟨c0, c1, c2'⟩ := hc
                obtain ⟨d0, d1, d2⟩ := hc'
                rcases sameA_cases hS with e0 | ⟨e0, e1⟩ | ⟨e0, e1, e2⟩
                all_goals
                  go_upto_region 22 with fail
                  go_quiet (fail)
                  go_wp2
                  go_roundw
                  case rel => exact ⟨m + 1, by omega, by go_num, gbelow_drewN hbi _⟩
                  case measure => simp [Go.RowKit.intOf]; omega
              · have hbis := hbi.size
                obtain ⟨P, hP⟩ : ∃ P, Q.getD j nAddress = P := ⟨_, rfl⟩
                rw [hP] at hc hwP
                obtain ⟨c0, c1, c2'⟩ := hc
                have hwfP : WfA P := ⟨hwP.1, hwP.2.1, hwP.2.2.1⟩
                have hA9 := HANS.out wr (hb2.trans (hbi.mono hzV)) P hwfP
                have hwY := HW2.out P
                have hw0Y := HW0.out P
                have hlY : (answer s P u).f1.length ≤ 1048576 := HLA.out P
                have hmv : j + 1 < q → (answer s P u).f0 = 3 ∧ (answer s P u).f2 = Q.getD (j + 1) nAddress := fun h => by rw [← hP]; exact HCH.out.mv j (by rw [HQ.out]; exact h)
                have hlst : j + 1 = q → answer s P u = f := fun h => by rw [← hP]; exact HCH.out.lst j (by rw [HQ.out]; exact h)
                obtain ⟨Y, hY⟩ : ∃ Y, answer s P u = Y := ⟨_, rfl⟩
                rw [hY] at hA9 hwY hw0Y hlY hmv hlst
                have HMV := Lib.hid hmv
                have HLST := Lib.hid hlst
                clear hY hP hmv hlst hwP
                go_wp2_with fail
                go_at_call 11
                refine hA9.mono ?_
                rintro e w5 ⟨s4, d4, rfl, ho4, hb4⟩
                have hbw : Below w5.heap.size w5 (w5.alloc (.cells #[.int .i64 Y.f0, .slice s4 Y.f1.length d4, .int .i64 Y.f2.f0, .int .i64 Y.f2.f1, .int .i64 Y.f2.f2] 31)) := (Below.refl _ _).alloc (Nat.le_refl _) _
                have qY := Blk.new 31 (resCells Y s4 d4) w5
                obtain ⟨V5, hV5⟩ : ∃ V5, w5.alloc (.cells #[.int .i64 Y.f0, .slice s4 Y.f1.length d4, .int .i64 Y.f2.f0, .int .i64 Y.f2.f1, .int .i64 Y.f2.f2] 31) = V5 := ⟨_, rfl⟩
                have hV5' : w5.alloc (.cells (resCells Y s4 d4).toArray 31) = V5 := hV5
                rw [hV5] at hbw
                rw [hV5'] at qY
                have hrY := ho4.lies.row'.1.below hbw
                have hz4 := hb4.size
                have hB4 := hbi.trans (hb4.mono hbis)
                have hB5 := hB4.trans (hbw.mono hB4.size)
                have hrF5 := hrF.below hB5
                have qF5 := qF.below hB5
                have HV5 := Lib.hid hV5
                clear hV5 hV5' hA9 ho4 hb4 hB4 hbw c0 c1 c2'
                by_cases hlast : j + 1 < q
                · obtain ⟨hk3, hto⟩ := HMV.out hlast
                  obtain ⟨b', off', he, _, _, hc', _⟩ := at_Address (hLQ.below hB5) hlast
                  injection he with he
                  injection he with he1 he2
                  subst he1 he2
                  obtain ⟨P2, hP2⟩ : ∃ P, Q.getD (j + 1) nAddress = P := ⟨_, rfl⟩
                  rw [hP2] at hto hc'
                  obtain ⟨d0, d1, d2⟩ := hc'
                  have y0 : V5.cell? ⟨w5.heap.size, 0, none⟩ = some (.int .i64 3) := by have h : V5.cell? ⟨w5.heap.size, 0, none⟩ = some (.int .i64 Y.f0) := qY.at rfl; rw [hk3] at h; exact h
                  have y2 : V5.cell? ⟨w5.heap.size, 2, none⟩ = some (.int .i64 P2.f0) := by rw [← hto]; exact qY.at rfl
                  have y3 : V5.cell? ⟨w5.heap.size, 3, none⟩ = some (.int .i64 P2.f1) := by rw [← hto]; exact qY.at rfl
                  have y4 : V5.cell? ⟨w5.heap.size, 4, none⟩ = some (.int .i64 P2.f2) := by rw [← hto]; exact qY.at rfl
                  have hd : decide ((j : Int) + 1 < (q : Int)) = true := by simp; omega
                  have hde : ((j : Int) + 1 == (q : Int)) = false := by simp; omega
                  clear hP2 hto hk3
                  go_upto_region 25 with fail
                  rw [HV5.out]
                  go_quiet (fail)
                  go_wp2
                  go_roundw
                  case rel => exact ⟨j + 1, by omega, by go_num, gbelow_drewN hB5 _⟩
                  case measure => simp [Go.RowKit.intOf]; omega
                · have hYf := HLST.out (by omega)
                  subst hYf
                  have hd : decide ((j : Int) + 1 < (q : Int)) = false := by simp; omega
                  have hde : ((j : Int) + 1 == (q : Int)) = true := by simp; omega
                  have hw1 : IntKind.wrap .i64 ((j : Int) + 1) = (j : Int) + 1 := by rw [IntKind.wrap_i64]; omega
                  obtain ⟨Wd, hWd⟩ : ∃ Wd, V5.drew = Wd := ⟨_, rfl⟩
                  have qYd : Blk 31 w5.heap.size (resCells Y s4 d4) Wd := by rw [← hWd]; exact qY.drew
                  have qFd : Blk 31 v2.heap.size (resCells Y x1 y1) Wd := by rw [← hWd]; exact qF5.drew
                  have hrYd : Row .i64 wr.heap.size w5.heap.size Wd s4 Y.f1.length Y.f1 := by rw [← hWd]; exact hrY.drewN 1
                  have hrFd : Row .i64 0 v2.heap.size Wd x1 Y.f1.length Y.f1 := by rw [← hWd]; exact hrF5.drewN 1
                  have hBd : Below V2.heap.size V2 Wd := by rw [← hWd]; exact gbelow_drewN hB5 1
                  go_upto_region 25 with fail
                  rw [HV5.out]
                  refine wp_region_held_drew (S := (fun w' => w'.cell? ⟨w5.heap.size, 0, none⟩ = some (.int .i64 Y.f0) ∧ w'.cell? ⟨w5.heap.size, 1, none⟩ = some (.slice s4 Y.f1.length d4) ∧ w'.cell? ⟨w5.heap.size, 2, none⟩ = some (.int .i64 Y.f2.f0) ∧ w'.cell? ⟨w5.heap.size, 3, none⟩ = some (.int .i64 Y.f2.f1) ∧ w'.cell? ⟨w5.heap.size, 4, none⟩ = some (.int .i64 Y.f2.f2) ∧ w'.cell? ⟨v2.heap.size, 0, none⟩ = some (.int .i64 Y.f0) ∧ w'.cell? ⟨v2.heap.size, 1, none⟩ = some (.slice x1 Y.f1.length y1) ∧ w'.cell? ⟨v2.heap.size, 2, none⟩ = some (.int .i64 Y.f2.f0) ∧ w'.cell? ⟨v2.heap.size, 3, none⟩ = some (.int .i64 Y.f2.f1) ∧ w'.cell? ⟨v2.heap.size, 4, none⟩ = some (.int .i64 Y.f2.f2))) (by kernel_rfl) (by rw [hWd]; exact ⟨qYd.at rfl, qYd.at rfl, qYd.at rfl, qYd.at rfl, qYd.at rfl, qFd.at rfl, qFd.at rfl, qFd.at rfl, qFd.at rfl, qFd.at rfl⟩) (fun hHeld => ?_)
                  rw [hWd] at hHeld ⊢
                  refine wpAnyH_take (i := 0) (v := ?vb0) (List.getElem?_toArray.trans rfl) (by kernel_rfl) (by kernel_rfl) (by kernel_rfl) (fun _ _ _ h => h) (Or.inl ⟨by rfl, ?yb0⟩) (by assumption) ?rb0
                  case yb0 => (intro w hSw; (try dsimp only at hSw); go_simp; try with_reducible rfl)
                  try simp only [Act.put, List.setIfInBounds_toArray, List.set_cons_zero, List.set_cons_succ]
                  refine wpAnyH_take (i := 1) (v := .int .i64 ((j : Int) + 1)) (List.getElem?_toArray.trans rfl) (by kernel_rfl) (by kernel_rfl) (by kernel_rfl) (fun _ _ _ h => h) (Or.inl ⟨by rfl, ?yb1⟩) (by assumption) ?rb1
                  case yb1 => (intro w hSw; (try dsimp only at hSw); go_simp; try simp [hw1])
                  try simp only [Act.put, List.setIfInBounds_toArray, List.set_cons_zero, List.set_cons_succ]
                  refine wpAnyH_take (i := 2) (v := ?vb2) (List.getElem?_toArray.trans rfl) (by kernel_rfl) (by kernel_rfl) (by kernel_rfl) (fun _ _ _ h => h) (Or.inl ⟨by rfl, ?yb2⟩) (by assumption) ?rb2
                  case yb2 => (intro w hSw; (try dsimp only at hSw); go_simp; try with_reducible rfl)
                  try simp only [Act.put, List.setIfInBounds_toArray, List.set_cons_zero, List.set_cons_succ]
                  refine wpAnyH_take (i := 3) (v := ?vb3) (List.getElem?_toArray.trans rfl) (by kernel_rfl) (by kernel_rfl) (by kernel_rfl) (fun _ _ _ h => h) (Or.inl ⟨by rfl, ?yb3⟩) (by assumption) ?rb3
                  case yb3 => (intro w hSw; (try dsimp only at hSw); go_simp; try with_reducible rfl)
                  try simp only [Act.put, List.setIfInBounds_toArray, List.set_cons_zero, List.set_cons_succ]
                  refine wpAnyH_take (i := 4) (v := .bool false) (List.getElem?_toArray.trans rfl) (by kernel_rfl) (by kernel_rfl) (by kernel_rfl) (fun _ _ _ h => h) (Or.inl ⟨by rfl, ?yb4⟩) (by assumption) ?rb4
                  case yb4 => (intro w hSw; (try dsimp only at hSw); go_simp; try simp [hd])
                  try simp only [Act.put, List.setIfInBounds_toArray, List.set_cons_zero, List.set_cons_succ]
                  refine wpAnyH_take (i := 5) (v := ?vb5) (List.getElem?_toArray.trans rfl) (by kernel_rfl) (by kernel_rfl) (by kernel_rfl) (fun _ _ _ h => h) (Or.inl ⟨by rfl, ?yb5⟩) (by assumption) ?rb5
                  case yb5 => (intro w hSw; (try dsimp only at hSw); go_simp; try with_reducible rfl)
                  try simp only [Act.put, List.setIfInBounds_toArray, List.set_cons_zero, List.set_cons_succ]
                  refine wpAnyH_take (i := 6) (v := undef) (List.getElem?_toArray.trans rfl) (by kernel_rfl) (by kernel_rfl) (by kernel_rfl) (fun _ _ _ h => h) (Or.inr ⟨by first | (simp [Region.wanted, yielded]; done) | simp [Region.wanted, yielded, undef], rfl⟩) (by assumption) ?_
                  try simp only [Act.put, List.setIfInBounds_toArray, List.set_cons_zero, List.set_cons_succ]
                  refine wpAnyH_take (i := 7) (v := undef) (List.getElem?_toArray.trans rfl) (by kernel_rfl) (by kernel_rfl) (by kernel_rfl) (fun _ _ _ h => h) (Or.inr ⟨by first | (simp [Region.wanted, yielded]; done) | simp [Region.wanted, yielded, undef], rfl⟩) (by assumption) ?_
                  try simp only [Act.put, List.setIfInBounds_toArray, List.set_cons_zero, List.set_cons_succ]
                  refine wpAnyH_take (i := 8) (v := undef) (List.getElem?_toArray.trans rfl) (by kernel_rfl) (by kernel_rfl) (by kernel_rfl) (fun _ _ _ h => h) (Or.inr ⟨by first | (simp [Region.wanted, yielded]; done) | simp [Region.wanted, yielded, undef], rfl⟩) (by assumption) ?_
                  try simp only [Act.put, List.setIfInBounds_toArray, List.set_cons_zero, List.set_cons_succ]
                  refine wpAnyH_take (i := 9) (v := undef) (List.getElem?_toArray.trans rfl) (by kernel_rfl) (by kernel_rfl) (by kernel_rfl) (fun _ _ _ h => h) (Or.inr ⟨by first | (simp [Region.wanted, yielded]; done) | simp [Region.wanted, yielded, undef], rfl⟩) (by assumption) ?_
                  try simp only [Act.put, List.setIfInBounds_toArray, List.set_cons_zero, List.set_cons_succ]
                  refine wpAnyH_take (i := 10) (v := undef) (List.getElem?_toArray.trans rfl) (by kernel_rfl) (by kernel_rfl) (by kernel_rfl) (fun _ _ _ h => h) (Or.inr ⟨by first | (simp [Region.wanted, yielded]; done) | simp [Region.wanted, yielded, undef], rfl⟩) (by assumption) ?_
                  try simp only [Act.put, List.setIfInBounds_toArray, List.set_cons_zero, List.set_cons_succ]
                  refine wpAnyH_take (i := 11) (v := undef) (List.getElem?_toArray.trans rfl) (by kernel_rfl) (by kernel_rfl) (by kernel_rfl) (fun _ _ _ h => h) (Or.inr ⟨by first | (simp [Region.wanted, yielded]; done) | simp [Region.wanted, yielded, undef], rfl⟩) (by assumption) ?_
                  try simp only [Act.put, List.setIfInBounds_toArray, List.set_cons_zero, List.set_cons_succ]
                  refine wpAnyH_take (i := 12) (v := undef) (List.getElem?_toArray.trans rfl) (by kernel_rfl) (by kernel_rfl) (by kernel_rfl) (fun _ _ _ h => h) (Or.inr ⟨by first | (simp [Region.wanted, yielded]; done) | simp [Region.wanted, yielded, undef], rfl⟩) (by assumption) ?_
                  try simp only [Act.put, List.setIfInBounds_toArray, List.set_cons_zero, List.set_cons_succ]
                  refine wpAnyH_take (i := 13) (v := undef) (List.getElem?_toArray.trans rfl) (by kernel_rfl) (by kernel_rfl) (by kernel_rfl) (fun _ _ _ h => h) (Or.inr ⟨by first | (simp [Region.wanted, yielded]; done) | simp [Region.wanted, yielded, undef], rfl⟩) (by assumption) ?_
                  try simp only [Act.put, List.setIfInBounds_toArray, List.set_cons_zero, List.set_cons_succ]
                  refine wpAnyH_take (i := 14) (v := undef) (List.getElem?_toArray.trans rfl) (by kernel_rfl) (by kernel_rfl) (by kernel_rfl) (fun _ _ _ h => h) (Or.inr ⟨by first | (simp [Region.wanted, yielded]; done) | simp [Region.wanted, yielded, undef], rfl⟩) (by assumption) ?_
                  try simp only [Act.put, List.setIfInBounds_toArray, List.set_cons_zero, List.set_cons_succ]
                  refine wpAnyH_take (i := 15) (v := undef) (List.getElem?_toArray.trans rfl) (by kernel_rfl) (by kernel_rfl) (by kernel_rfl) (fun _ _ _ h => h) (Or.inr ⟨by first | (simp [Region.wanted, yielded]; done) | simp [Region.wanted, yielded, undef], rfl⟩) (by assumption) ?_
                  try simp only [Act.put, List.setIfInBounds_toArray, List.set_cons_zero, List.set_cons_succ]
                  refine wpAnyH_take (i := 16) (v := undef) (List.getElem?_toArray.trans rfl) (by kernel_rfl) (by kernel_rfl) (by kernel_rfl) (fun _ _ _ h => h) (Or.inr ⟨by first | (simp [Region.wanted, yielded]; done) | simp [Region.wanted, yielded, undef], rfl⟩) (by assumption) ?_
                  try simp only [Act.put, List.setIfInBounds_toArray, List.set_cons_zero, List.set_cons_succ]
                  refine wpAnyH_take (i := 17) (v := undef) (List.getElem?_toArray.trans rfl) (by kernel_rfl) (by kernel_rfl) (by kernel_rfl) (fun _ _ _ h => h) (Or.inr ⟨by first | (simp [Region.wanted, yielded]; done) | simp [Region.wanted, yielded, undef], rfl⟩) (by assumption) ?_
                  try simp only [Act.put, List.setIfInBounds_toArray, List.set_cons_zero, List.set_cons_succ]
                  refine wpAnyH_take (i := 18) (v := undef) (List.getElem?_toArray.trans rfl) (by kernel_rfl) (by kernel_rfl) (by kernel_rfl) (fun _ _ _ h => h) (Or.inr ⟨by first | (simp [Region.wanted, yielded]; done) | simp [Region.wanted, yielded, undef], rfl⟩) (by assumption) ?_
                  try simp only [Act.put, List.setIfInBounds_toArray, List.set_cons_zero, List.set_cons_succ]
                  refine wpAnyH_take (i := 19) (v := ?vb19) (List.getElem?_toArray.trans rfl) (by kernel_rfl) (by kernel_rfl) (by kernel_rfl) (fun _ _ _ h => h) (Or.inl ⟨by rfl, ?yb19⟩) (by assumption) ?rb19
                  case yb19 => (intro w hSw; (try dsimp only at hSw); go_simp; try with_reducible rfl)
                  try simp only [Act.put, List.setIfInBounds_toArray, List.set_cons_zero, List.set_cons_succ]
                  refine wpAnyH_take (i := 20) (v := ?vb20) (List.getElem?_toArray.trans rfl) (by kernel_rfl) (by kernel_rfl) (by kernel_rfl) (fun _ _ _ h => h) (Or.inl ⟨by rfl, ?yb20⟩) (by assumption) ?rb20
                  case yb20 => (intro w hSw; (try dsimp only at hSw); go_simp; try with_reducible rfl)
                  try simp only [Act.put, List.setIfInBounds_toArray, List.set_cons_zero, List.set_cons_succ]
                  refine wpAnyH_take (i := 21) (v := ?vb21) (List.getElem?_toArray.trans rfl) (by kernel_rfl) (by kernel_rfl) (by kernel_rfl) (fun _ _ _ h => h) (Or.inl ⟨by rfl, ?yb21⟩) (by assumption) ?rb21
                  case yb21 => (intro w hSw; (try dsimp only at hSw); go_simp; try with_reducible rfl)
                  try simp only [Act.put, List.setIfInBounds_toArray, List.set_cons_zero, List.set_cons_succ]
                  refine wpAnyH_take (i := 22) (v := .int .i64 ((j : Int) + 1)) (List.getElem?_toArray.trans rfl) (by kernel_rfl) (by kernel_rfl) (by kernel_rfl) (fun _ _ _ h => h) (Or.inl ⟨by rfl, ?yb22⟩) (by assumption) ?rb22
                  case yb22 => (intro w hSw; (try dsimp only at hSw); go_simp; try simp [hw1])
                  try simp only [Act.put, List.setIfInBounds_toArray, List.set_cons_zero, List.set_cons_succ]
                  refine wpAnyH_take (i := 23) (v := ?vb23) (List.getElem?_toArray.trans rfl) (by kernel_rfl) (by kernel_rfl) (by kernel_rfl) (fun _ _ _ h => h) (Or.inl ⟨by rfl, ?yb23⟩) (by assumption) ?rb23
                  case yb23 => (intro w hSw; (try dsimp only at hSw); go_simp; try with_reducible rfl)
                  try simp only [Act.put, List.setIfInBounds_toArray, List.set_cons_zero, List.set_cons_succ]
                  refine wpAnyH_take (i := 24) (v := ?vb24) (List.getElem?_toArray.trans rfl) (by kernel_rfl) (by kernel_rfl) (by kernel_rfl) (fun _ _ _ h => h) (Or.inl ⟨by rfl, ?yb24⟩) (by assumption) ?rb24
                  case yb24 => (intro w hSw; (try dsimp only at hSw); go_simp; try with_reducible rfl)
                  try simp only [Act.put, List.setIfInBounds_toArray, List.set_cons_zero, List.set_cons_succ]
                  refine wpAnyH_take (i := 25) (v := .bool true) (List.getElem?_toArray.trans rfl) (by kernel_rfl) (by kernel_rfl) (by kernel_rfl) (fun _ _ _ h => h) (Or.inl ⟨by rfl, ?yb25⟩) (by assumption) ?rb25
                  case yb25 => (intro w hSw; (try dsimp only at hSw); go_simp; try simp [hde])
                  try simp only [Act.put, List.setIfInBounds_toArray, List.set_cons_zero, List.set_cons_succ]
                  refine wpAnyH_take (i := 26) (v := ?vb26) (List.getElem?_toArray.trans rfl) (by kernel_rfl) (by kernel_rfl) (by kernel_rfl) (fun _ _ _ h => h) (Or.inl ⟨by rfl, ?yb26⟩) (by assumption) ?rb26
                  case yb26 => (intro w hSw; (try dsimp only at hSw); go_simp; try with_reducible rfl)
                  try simp only [Act.put, List.setIfInBounds_toArray, List.set_cons_zero, List.set_cons_succ]
                  refine wpAnyH_take (i := 27) (v := .agg #[.int .i64 Y.f0, .slice s4 Y.f1.length d4, .int .i64 Y.f2.f0, .int .i64 Y.f2.f1, .int .i64 Y.f2.f2]) (List.getElem?_toArray.trans rfl) (by kernel_rfl) (by kernel_rfl) (by kernel_rfl) (fun _ _ _ h => h) (Or.inl ⟨by rfl, ?yb27⟩) (by assumption) ?rb27
                  case yb27 => (intro w hSw; (try dsimp only at hSw); go_simp; try simp [hSw])
                  try simp only [Act.put, List.setIfInBounds_toArray, List.set_cons_zero, List.set_cons_succ]
                  refine wpAnyH_take (i := 28) (v := .agg #[.int .i64 Y.f0, .slice x1 Y.f1.length y1, .int .i64 Y.f2.f0, .int .i64 Y.f2.f1, .int .i64 Y.f2.f2]) (List.getElem?_toArray.trans rfl) (by kernel_rfl) (by kernel_rfl) (by kernel_rfl) (fun _ _ _ h => h) (Or.inl ⟨by rfl, ?yb28⟩) (by assumption) ?rb28
                  case yb28 => (intro w hSw; (try dsimp only at hSw); go_simp; try simp [hSw])
                  try simp only [Act.put, List.setIfInBounds_toArray, List.set_cons_zero, List.set_cons_succ]
                  refine wpAnyH_ready (rs := [29]) (by kernel_rfl) (by simp) ?_
                  refine AllReadyH.cons (List.getElem?_toArray.trans rfl) (fun K hK => ?_) AllReadyH.nil
                  go_simp
                  go_at_call 13
                  refine (alike_impl _ _ _ _ Y.f0 Y.f2.f0 Y.f2.f1 Y.f2.f2 Y.f0 Y.f2.f0 Y.f2.f1 Y.f2.f2 Wd s4 x1 Y.f1.length d4 Y.f1.length y1 Y.f1 Y.f1 hrYd hrFd hlY hlY hw0Y hwY.1 hwY.2.1 hwY.2.2 hw0Y hwY.1 hwY.2.1 hwY.2.2).mono ?_
                  rw [decide_eq_true (show Y.f0 = Y.f0 ∧ (Y.f2.f0 = Y.f2.f0 ∧ Y.f2.f1 = Y.f2.f1 ∧ Y.f2.f2 = Y.f2.f2) ∧ Y.f1 = Y.f1 from ⟨rfl, ⟨rfl, rfl, rfl⟩, rfl⟩)]
                  rintro e w6 ⟨rfl, hb6⟩
                  have qYd := Blk.below (w := Wd) qYd hb6
                  have qFd := Blk.below (w := Wd) qFd hb6
                  have hBd := Below.trans (b := Wd) hBd (Below.mono (w := Wd) hb6 hBd.size)
                  have s9 : w6.cell? ⟨w5.heap.size, 0, none⟩ = some (.int .i64 Y.f0) ∧ w6.cell? ⟨w5.heap.size, 1, none⟩ = some (.slice s4 Y.f1.length d4) ∧ w6.cell? ⟨w5.heap.size, 2, none⟩ = some (.int .i64 Y.f2.f0) ∧ w6.cell? ⟨w5.heap.size, 3, none⟩ = some (.int .i64 Y.f2.f1) ∧ w6.cell? ⟨w5.heap.size, 4, none⟩ = some (.int .i64 Y.f2.f2) ∧ w6.cell? ⟨v2.heap.size, 0, none⟩ = some (.int .i64 Y.f0) ∧ w6.cell? ⟨v2.heap.size, 1, none⟩ = some (.slice x1 Y.f1.length y1) ∧ w6.cell? ⟨v2.heap.size, 2, none⟩ = some (.int .i64 Y.f2.f0) ∧ w6.cell? ⟨v2.heap.size, 3, none⟩ = some (.int .i64 Y.f2.f1) ∧ w6.cell? ⟨v2.heap.size, 4, none⟩ = some (.int .i64 Y.f2.f2) := ⟨qYd.at rfl, qYd.at rfl, qYd.at rfl, qYd.at rfl, qYd.at rfl, qFd.at rfl, qFd.at rfl, qFd.at rfl, qFd.at rfl, qFd.at rfl⟩
                  refine hK.out _ _ s9 (fun hHeld => ?_)
                  clear hK K
                  try simp only [Act.put, List.setIfInBounds_toArray, List.set_cons_zero, List.set_cons_succ]
                  refine wpAnyH_take (i := 30) (v := ?vb30) (List.getElem?_toArray.trans rfl) (by kernel_rfl) (by kernel_rfl) (by kernel_rfl) (fun _ _ _ h => h) (Or.inl ⟨by rfl, ?yb30⟩) (by assumption) ?rb30
                  case yb30 => (intro w hSw; (try dsimp only at hSw); go_simp; try with_reducible rfl)
                  try simp only [Act.put, List.setIfInBounds_toArray, List.set_cons_zero, List.set_cons_succ]
                  refine wpAnyH_take (i := 31) (v := ?vb31) (List.getElem?_toArray.trans rfl) (by kernel_rfl) (by kernel_rfl) (by kernel_rfl) (fun _ _ _ h => h) (Or.inl ⟨by rfl, ?yb31⟩) (by assumption) ?rb31
                  case yb31 => (intro w hSw; (try dsimp only at hSw); go_simp; try with_reducible rfl)
                  try simp only [Act.put, List.setIfInBounds_toArray, List.set_cons_zero, List.set_cons_succ]
                  refine wpAnyH_take (i := 32) (v := ?vb32) (List.getElem?_toArray.trans rfl) (by kernel_rfl) (by kernel_rfl) (by kernel_rfl) (fun _ _ _ h => h) (Or.inl ⟨by rfl, ?yb32⟩) (by assumption) ?rb32
                  case yb32 => (intro w hSw; (try dsimp only at hSw); go_simp; try with_reducible rfl)
                  try simp only [Act.put, List.setIfInBounds_toArray, List.set_cons_zero, List.set_cons_succ]
                  refine wpAnyH_done (by kernel_rfl) ?_ _
                  go_wp2
                  go_roundw
                  case rel => exact ⟨j + 1, by omega, by go_num, hBd⟩
                  case measure => simp [Go.RowKit.intOf]; omega
          · have hjq : decide ((j : Int) < (q : Int)) = false := by simp; omega
            have qX := qX.below hbl
            obtain ⟨b, off, rfl, _, _, hc, _⟩ := at_Address (hLQ.below hbl) (show 0 < q by omega)
            have hhd := HCH.out.hd
            rw [hhd] at hc
            obtain ⟨c0, c1, c2'⟩ := hc
            simp only [Nat.zero_mul, Nat.add_zero] at c0 c1 c2'
            have x0 : wr.cell? ⟨v1.heap.size, 0, none⟩ = some (.int .i64 X.f0) := qX.at rfl
            have x1' : wr.cell? ⟨v1.heap.size, 1, none⟩ = some (.int .i64 X.f1) := qX.at rfl
            have x2 : wr.cell? ⟨v1.heap.size, 2, none⟩ = some (.int .i64 X.f2) := qX.at rfl
            have hd : decide ((q : Int) ≥ 1) = true := by simp; omega
            have hd1 : decide (1 ≤ (q : Int)) = true := by simp; omega
            have hd2 : decide ((q : Int) ≤ 5) = true := by simp; omega
            clear hhd
            go_upto_region 27 with fail
            go_quiet (fail)
            go_wp2
            go_ret
            exact ⟨rfl, gbelow_drewN (hB2.trans (hbl.mono hB2.size)) _⟩
end Go.Proofs.Ytldpgkbemgpacaa.FnSitesW
