/-
  For every row of bytes that a test is drawn from, the law FnPieces returns true: a body follows from an older one and the pieces.
  Conditions: the argument can be read.
-/
import Derived.Test.YtkjglmfnlpapbaaPieceI
import Derived.Test.YtkjglmfnlpapbaaPieceLaw
import Derived.Test.YtkjglmfnlpapbaaDraws8
import Derived.Test.YtkjglmfnlpapbaaEqI
import Derived.Deep.QuietTactic
import Derived.BigQuiet
import Derived.Deep.CutBlock
import Derived.Deep.DeepCutAuto
namespace Go.Proofs.Ytkjglmfnlpapbaa.FnPiecesW
open Go Go.RowKit Go.Proofs.Ytkjglmfnlpapbaa.Mem Go.Proofs.Ytkjglmfnlpapbaa.Pieces
set_option linter.unusedVariables false

theorem bytes_under {B C : Nat} {w w' : World} {a : Option Addr} {n : Nat} (h : Draw.Bytes B w a n) (hb : Below C w w') (hB : B ≤ C) : Draw.Bytes B w' a n :=
  ⟨h.1, fun j hj => by
    obtain ⟨b, off, x, ha, hbB, hx, hc⟩ := h.2 j hj
    exact ⟨b, off, x, ha, hbB, hx, by rw [Mem.cell_of_heap (hb.block b (by omega))]; exact hc⟩⟩

set_option maxHeartbeats 8000000 in
set_option maxRecDepth 100000 in
theorem walk_small (a : Option Addr) (n c : Nat) (w : World) (hb : Draw.Bytes w.heap.size w a n) (hn : n ≤ 1048576) :
    Calls Try.prog 3 #[.slice a n c] w fun e w' => e = .returned (.bool true) ∧ Below w.heap.size w w' := by
  go_enter Try.func3, Try.ntmps3
  go_wp2_with (go_at_call 8; go_in)
  go_at_call 9
  refine (Draw.draw_pair w.heap.size a n c _ hb (Nat.le_refl _)).mono ?_
  rintro e w1 ⟨a1, n1, c1, xs, b1, m1, d1, ys, rfl, hx, hy, hn1, hm1, hcx, hcy, hb1⟩
  have hs1 := hb1.size
  have hX := hx.len
  have hY := hy.len
  have hP := pieces_impl 0 w1.heap.size 0 w1.heap.size w1 a1 n1 c1 xs b1 m1 d1 ys hx (Nat.le_refl _) hy (Nat.le_refl _) hcx hcy (by omega) (by omega)
  have hrm := room_pieces (xs := xs) (ys := ys)
  have HX := Lib.hid hX
  have HY := Lib.hid hY
  obtain ⟨L, hL⟩ : ∃ L, piecesL xs ys = L := ⟨_, rfl⟩
  rw [hL] at hP hrm
  have HL := Lib.hid hL
  have dn : decide ((n1 : Int) ≤ 100) = true := by simp; omega
  clear hX hY hL
  go_wp2_with fail
  go_at_call 10
  refine hP.mono ?_
  rintro e w2 ⟨a2, c2, rfl, hO, _, _, hb2⟩
  have hs2 := hb2.size
  have hx2 := hx.below hb2
  have hy2 := hy.below hb2
  have hB2 := hb1.trans (hb2.mono hs1)
  have hl2 := hO.row
  clear hP hx hy hO
  go_upto_if 32 with fail
  go_cut [6, 7] (fun s6 s7 wx => Below w.heap.size w wx)
  case first =>
    by_cases hm : m1 ≤ 100
    rotate_left
    · have dm : decide ((m1 : Int) ≤ 100) = false := by simp; omega
      go_wp2_with fail
      go_meet
      case rel => exact hB2
    have dm : decide ((m1 : Int) ≤ 100) = true := by simp; omega
    obtain ⟨k2, kr⟩ := room_two (xs := xs) (ys := ys) (by rw [HX.out]; omega) (by rw [HY.out]; omega)
    have kap := apply_pieces (xs := xs) (ys := ys) (by rw [HX.out]; omega) (by rw [HY.out]; omega)
    have kse := room_self (xs := xs) (by rw [HX.out]; omega)
    rw [HL.out] at k2 kr kap
    have kR : applyR xs L = ys := by unfold applyR; rw [kap]; rfl
    have kB : applyB xs L = true := by unfold applyB; rw [kap]; rfl
    have hA := apply_impl 0 w1.heap.size w1.heap.size w2.heap.size w2 a1 n1 c1 xs hx2 hs2 hcx (by omega) a2 L.length c2 L hl2 (Nat.le_refl _) (by omega)
    rw [kR, kB] at hA
    have hkr : (room L : Int) ≤ (m1 : Int) + 2 := by have := HY.out; omega
    have K2 := Lib.hid k2
    have HW := Lib.hid (show worthB xs ys = decide ((room L : Int) < (m1 : Int)) by unfold worthB; rw [HL.out, HY.out])
    obtain ⟨T, hT⟩ : ∃ T : Int, (room L : Int) = T := ⟨_, rfl⟩
    have HT := Lib.hid hT
    rw [hT] at hkr
    have hE2 : ((L.length : Int) != 2) = false := by rw [k2]; rfl
    have dT : decide (T > (m1 : Int) + 2) = false := by simp; omega
    have dTb : decide ((m1 : Int) + 2 < T) = false := by simp; omega
    have wm : IntKind.wrap .i64 ((m1 : Int) + 2) = (m1 : Int) + 2 := by rw [IntKind.wrap_i64]; omega
    clear k2 kr kap kR kB hT
    go_wp2_with fail
    go_at_call 11
    refine hA.mono ?_
    rintro e w3 ⟨a3, c3, rfl, hO3, _, _, hb3⟩
    have hs3 := hb3.size
    have hx3 := hx2.below hb3
    have hy3 := hy2.below hb3
    have hl3 := hl2.below hb3
    have hB3 := hB2.trans (hb3.mono hB2.size)
    rw [HY.out] at hO3 ⊢
    have hEq := EqI.impl_below _ _ _ _ w3 a3 b1 m1 m1 c3 d1 ys ys hO3.row hy3 (by omega) (by omega)
    rw [show decide (ys = ys) = true by simp] at hEq
    clear hA hx2 hy2 hl2 hO3
    go_wp2_with fail
    go_at_call 12
    refine hEq.mono ?_
    rintro e w4 ⟨rfl, hb4⟩
    have hs4 := hb4.size
    have hx4 := hx3.below hb4
    have hy4 := hy3.below hb4
    have hl4 := hl3.below hb4
    have hB4 := hB3.trans (hb4.mono hB3.size)
    have hC4 := cost_impl _ _ w4 a2 L.length c2 L hl4 (by omega) (by omega)
    rw [HT.out] at hC4
    clear hEq hx3 hy3 hl3
    go_wp2_with fail
    go_at_call 13
    refine hC4.mono ?_
    rintro e w5 ⟨rfl, hb5⟩
    have hs5 := hb5.size
    have hx5 := hx4.below hb5
    have hy5 := hy4.below hb5
    have hl5 := hl4.below hb5
    have hB5 := hB4.trans (hb5.mono hB4.size)
    have hW5 := worth_impl _ _ _ _ w5 a1 n1 c1 xs b1 m1 d1 ys hx5 (by omega) hy5 (by omega) hcx hcy (by omega) (by omega)
    rw [HW.out, HT.out] at hW5
    obtain ⟨V, hV⟩ : ∃ V, decide (T < (m1 : Int)) = V := ⟨_, rfl⟩
    rw [hV] at hW5
    have hVV : (V != V) = false := by simp
    clear hC4 hx4 hy4 hl4
    go_wp2_with fail
    go_at_call 14
    refine hW5.mono ?_
    rintro e w6 ⟨rfl, hb6⟩
    have hs6 := hb6.size
    have hx6 := hx5.below hb6
    have hl6 := hl5.below hb6
    have hB6 := hB5.trans (hb6.mono hB5.size)
    have hC6 := cost_impl _ _ w6 a2 L.length c2 L hl6 (by omega) (by omega)
    rw [HT.out] at hC6
    clear hW5 hx5 hy5 hl5
    go_wp2_with fail
    go_at_call 13
    refine hC6.mono ?_
    rintro e w7 ⟨rfl, hb7⟩
    have hs7 := hb7.size
    have hx7 := hx6.below hb7
    have hB7 := hB6.trans (hb7.mono hB6.size)
    have hS7 := pieces_impl _ _ _ _ w7 a1 n1 c1 xs a1 n1 c1 xs hx7 (by omega) hx7 (by omega) hcx hcx (by omega) (by omega)
    obtain ⟨Q, hQ⟩ : ∃ Q, piecesL xs xs = Q := ⟨_, rfl⟩
    rw [hQ] at hS7 kse
    clear hC6 hx6 hl6 hQ dT dTb hkr wm
    go_wp2_with fail
    go_at_call 10
    refine hS7.mono ?_
    rintro e w8 ⟨a8, c8, rfl, hO8, _, _, hb8⟩
    have hs8 := hb8.size
    have hB8 := hB7.trans (hb8.mono hB7.size)
    have hC8 := cost_impl _ _ w8 a8 Q.length c8 Q hO8.row (Nat.le_refl _) (by omega)
    rw [kse] at hC8
    clear hS7 hO8 kse hx7
    go_wp2_with fail
    go_at_call 13
    refine hC8.mono ?_
    rintro e w9 ⟨rfl, hb9⟩
    have hB9 := hB8.trans (hb9.mono hB8.size)
    clear hC8
    go_wp2_with fail
    go_meet
    case rel => exact hB9
  case rest =>
  have hBx := hcut
  clear hcut
  clear hx2 hy2 hl2 hB2 dn
  have hsx := hBx.size
  go_wp2_with fail
  go_at_call 15
  refine (Draw.draw_apply w.heap.size a n c _ (bytes_under hb hBx (Nat.le_refl _)) hsx).mono ?_
  rintro e v1 ⟨aC, nC, cC, zs, aP, nP, cP, l, rfl, fC, fP, hnC, hrP, hcC, hc1⟩
  have ht1 := hc1.size
  have hD1 := hBx.trans (hc1.mono hsx)
  have hA := apply_impl 0 v1.heap.size 0 v1.heap.size v1 aC nC cC zs fC (Nat.le_refl _) hcC (by omega) aP nP cP l fP (Nat.le_refl _) (by omega)
  have hlP := fP.len
  have hrq := room_eq l
  obtain ⟨R, hR⟩ : ∃ R, applyR zs l = R := ⟨_, rfl⟩
  obtain ⟨B, hB⟩ : ∃ B, applyB zs l = B := ⟨_, rfl⟩
  rw [hR, hB] at hA
  have HlP := Lib.hid hlP
  have hnP : nP ≤ 1000 := by omega
  clear hb hlP hrq
  cases B with
  | false =>
    have hR0 : R = [] := by rw [← hR]; exact apply_no hB
    subst hR0
    clear hR hB
    go_wp2_with fail
    go_at_call 11
    refine hA.mono ?_
    rintro e v2 ⟨a2, c2, rfl, _, _, _, hc2⟩
    have hD2 := hD1.trans (hc2.mono hD1.size)
    have hp2 := fP.below hc2
    clear hA fP fC
    go_wp2
    refine wp_loop_rounds 1 ?_
    rw [rounds_succ]
    by_cases h0 : 0 < nP
    · have d0 : decide ((0 : Int) < (nP : Int)) = true := by simp; omega
      go_wp2
      go_ret
      exact ⟨rfl, hD2⟩
    · have d0 : decide ((0 : Int) < (nP : Int)) = false := by simp; omega
      go_wp2
      go_ret
      exact ⟨rfl, hD2⟩
  | true =>
    obtain ⟨g1, g2⟩ := apply_gain hB
    rw [hR] at g1
    have G1 := Lib.hid g1
    have G2 := Lib.hid g2
    clear hR hB g1 g2
    go_wp2_with fail
    go_at_call 11
    refine hA.mono ?_
    rintro e v2 ⟨a2, c2, rfl, _, _, _, hc2⟩
    have hD2 := hD1.trans (hc2.mono hD1.size)
    have hp2 := fP.below hc2
    clear hA fP fC
    go_wp2
    go_loopw [13, 14] (fun x i wr => ∃ (j q : Nat) (s : Int), j ≤ nP ∧ i = .int .i64 j ∧ x = .int .i64 s ∧ Hid (s = gain (l.take j)) ∧ 0 ≤ s ∧ s ≤ 1000 ∧ wr = v2.drewN q) (fun _ i _ => nP - (Go.RowKit.intOf i).toNat)
    case atStart => exact ⟨0, 0, 0, Nat.zero_le _, rfl, rfl, by simp [gain, Hid], by omega, by omega, rfl⟩
    case round =>
      obtain ⟨j, q, s, hj, rfl, rfl, HS, hs0, hs1', rfl⟩ := hrel
      by_cases hlt : j < nP
      · have d0 : decide ((j : Int) < (nP : Int)) = true := by simp; omega
        obtain ⟨b, off, A, cc, rfl, _, _, hc, _, _⟩ := hp2.at hlt
        have hji : (j : Int) < (nP : Int) := by omega
        have hgn := gain_next (l := l) (j := j) (by rw [HlP.out]; exact hlt)
        obtain ⟨h3, h4⟩ := G2.out (j + 1) (by rw [HlP.out]; omega)
        have hzj : (pc l j).zs.length ≤ 1000 := by
          have k1 := bodies_take l j (by rw [HlP.out]; exact hlt)
          have k2 := bodies_le l (j + 1)
          have k3 := room_eq l
          omega
        have hsum : s + (pc l j).m + ((pc l j).zs.length : Int) = gain (l.take (j + 1)) := by have := HS.out; omega
        obtain ⟨P, hP⟩ : ∃ P, pc l j = P := ⟨_, rfl⟩
        rw [hP] at hc hzj hsum
        obtain ⟨c0, c1', c2'⟩ := hc
        have hb1 : 0 ≤ s + P.m + (P.zs.length : Int) ∧ s + P.m + (P.zs.length : Int) ≤ 1000 := by omega
        obtain ⟨hb1a, hb1b⟩ := hb1
        have w1 : IntKind.wrap .i64 (s + P.m) = s + P.m := by rw [IntKind.wrap_i64]; omega
        have w2 : IntKind.wrap .i64 (s + P.m + (P.zs.length : Int)) = s + P.m + (P.zs.length : Int) := by rw [IntKind.wrap_i64]; omega
        have HSS := Lib.hid hsum
        clear hP hgn h3 h4 hsum c0
        go_upto_region 18 with fail
        go_quiet (fail)
        go_wp2
        go_roundw
        case rel => exact ⟨j + 1, _, _, by omega, by go_num, rfl, HSS, hb1a, hb1b, by first | rfl | exact World.drewN_drewN _ _ _⟩
        case measure => simp [Go.RowKit.intOf]; omega
      · have d0 : decide ((j : Int) < (nP : Int)) = false := by simp; omega
        have HE := Lib.hid (show j = nP by omega)
        have hfin : (R.length : Int) = s := by
          have h1 := HS.out
          rw [HE.out, ← HlP.out, List.take_length] at h1
          rw [G1.out, h1]
        have hbb : ((R.length : Int) == s) = true := by rw [hfin]; exact beq_self_eq_true _
        have hDq : Below w.heap.size w (v2.drewN q) := Mem.below_drewN hD2 _
        clear hfin
        go_wp2
        go_ret
        exact ⟨rfl, hDq⟩

set_option maxRecDepth 100000 in
theorem law_walk (a : Option Addr) (n c : Nat) (w : World) (h : Draw.Bytes w.heap.size w a n) :
    Calls Try.prog 3 #[.slice a n c] w fun e w' => e = .returned (.bool true) ∧ Below w.heap.size w w' := by
  by_cases k : n ≤ 1048576
  · exact walk_small a n c w h k
  · have k' : (1048576 : Int) < n := by omega
    go_enter Try.func3, Try.ntmps3
    go_wp2
    go_ret
    exact ⟨rfl, Below.refl _ _⟩
end Go.Proofs.Ytkjglmfnlpapbaa.FnPiecesW
