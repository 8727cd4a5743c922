/-
  The machine, the model: whether a state is valid, whether a step can be made, whether all is done, whether two states are the same; the first state.
  Conditions: the rows lie in memory, with 2^20 numbers at most.
-/
import Derived.Test.YtbohkohccnieiaaMachMath
import Derived.Test.YtbohkohccnieiaaScriptS
import Derived.Test.YtbohkohccnieiaaEqI
import Derived.Test.YtbohkohccnieiaaMachCopy
namespace Go.Proofs.Ytbohkohccnieiaa.Mach
open Go Go.RowKit Go.Proofs.Ytbohkohccnieiaa.Mem Go.Proofs.Ytbohkohccnieiaa.Gen Go.Proofs.Ytbohkohccnieiaa.Scripts

set_option maxRecDepth 100000 in
theorem cells_spec (lo hi : Nat) (w : World) (a : Option Addr) (c : Nat) (zs : List Int) (m : Int) (h : Lies lo hi w (ints zs) (.slice a zs.length c)) (hm : zs.length ≤ 1048576) :
    Calls Try.prog 58 #[.slice a zs.length c, .int .i64 m] w fun e w' => e = .returned (.bool (cellsB m zs)) ∧ w = w' := by
  obtain ⟨n, hn⟩ : ∃ n, zs.length = n := ⟨_, rfl⟩
  obtain ⟨r, hr⟩ : ∃ r, cellsB m zs = r := ⟨_, rfl⟩
  have hrow := h.row'.1
  rw [hr]
  rw [hn] at hrow hm ⊢
  have HN := Lib.hid hn
  have HR := Lib.hid hr
  clear hn hr h
  go_enter Try.func58, Try.ntmps58
  go_wp2
  go_loopw [5] (fun i wr => ∃ j : Nat, j ≤ n ∧ i = .int .i64 j ∧ AllIn zs j ∧ w = wr) (fun i _ => n - (Go.RowKit.intOf i).toNat)
  case atStart => exact ⟨0, Nat.zero_le _, rfl, AllIn.zero _, rfl⟩
  case round =>
    obtain ⟨j, hj, rfl, hal, rfl⟩ := hrel
    by_cases hlt : j < n
    · obtain ⟨b, off, rfl, _, _, hc⟩ := hrow.cell hlt
      have HNO := Lib.hid (fun h => cellsB_no (n := m) (l := zs) (j := j) (by rw [HN.out]; exact hlt) h)
      have HYE := Lib.hid (fun h => hal.next h)
      obtain ⟨z, hz⟩ : ∃ z, zs.getD j 0 = z := ⟨_, rfl⟩
      rw [hz] at hc HNO HYE
      have hok := fun W => l1_is z 0 999 W
      obtain ⟨r1, hr1⟩ : ∃ r, inR 0 999 z = r := ⟨_, rfl⟩
      rw [hr1] at hok HNO HYE
      clear hr1 hz hal
      go_wp2_with fail
      go_at_call 57
      refine (hok _).mono ?_
      rintro e w1 ⟨rfl, rfl⟩
      cases r1 with
      | false =>
        have e1 := HNO.out rfl
        rw [HR.out] at e1
        have HE1 := Lib.hid e1
        clear e1
        go_wp2
        go_ret
        have e1 := HE1.out
        exact ⟨by rw [e1]; rfl, rfl⟩
      | true =>
        have hal2 := HYE.out rfl
        go_wp2
        go_roundw
        case rel => exact ⟨j + 1, by omega, by go_num, hal2, trivial⟩
        case measure => simp [Go.RowKit.intOf]; omega
    · have hd : decide ((j : Int) < (n : Int)) = false := by simp; omega
      have e1 := hal.end (n := m) (by rw [HN.out]; omega)
      rw [HR.out, HN.out] at e1
      clear hrow hal
      by_cases hnm : (n : Int) = m
      · rw [decide_eq_true hnm] at e1
        subst hnm
        go_wp2
        go_ret
        exact ⟨by rw [e1]; rfl, rfl⟩
      · rw [decide_eq_false hnm] at e1
        have hd2 : ((n : Int) == m) = false := by simpa using hnm
        go_wp2
        go_ret
        exact ⟨by rw [e1]; rfl, rfl⟩


set_option maxHeartbeats 1600000 in
set_option maxRecDepth 100000 in
theorem state_spec (P : TState) (w : World) (a1 : Option Addr) (c1 : Nat) (a2 : Option Addr) (c2 : Nat) (a3 : Option Addr) (c3 : Nat) (h : St w P a1 c1 a2 c2 a3 c3) (hm1 : P.f1.length ≤ 1048576) (hm2 : P.f2.length ≤ 1048576) (hm3 : P.f3.length ≤ 1048576) :
    Calls Try.prog 26 #[.agg #[.int .i64 P.f0, .slice a1 P.f1.length c1, .slice a2 P.f2.length c2, .slice a3 P.f3.length c3]] w fun e w' => e = .returned (.bool (stateB P)) ∧ Below w.heap.size w w' := by
  obtain ⟨W, hWW⟩ : ∃ Z, w.alloc (.cells #[.int .i64 P.f0, .slice a1 P.f1.length c1, .slice a2 P.f2.length c2, .slice a3 P.f3.length c3] 27) = Z := ⟨_, rfl⟩
  have hBW : Below w.heap.size w W := by rw [← hWW]; exact (Below.refl _ _).alloc (Nat.le_refl _) _
  have qB : Blk 27 w.heap.size [.int .i64 P.f0, .slice a1 P.f1.length c1, .slice a2 P.f2.length c2, .slice a3 P.f3.length c3] W := by rw [← hWW]; exact Blk.new _ [_, _, _, _] w
  have k1 := fun (W' : World) (hb : Below W.heap.size W W') => cells_spec 0 w.heap.size W' a1 c1 P.f1 4 ((h.r1.below hBW).below hb) hm1
  have k2 := fun (W' : World) (hb : Below W.heap.size W W') => cells_spec 0 w.heap.size W' a2 c2 P.f2 3 ((h.r2.below hBW).below hb) hm2
  have k3 := fun (W' : World) (hb : Below W.heap.size W W') => cells_spec 0 w.heap.size W' a3 c3 P.f3 4 ((h.r3.below hBW).below hb) hm3
  have k0 := fun W' => l1_is P.f0 0 19 W'
  have hst : stateB P = (inR 0 19 P.f0 && (cellsB 4 P.f1 && (cellsB 3 P.f2 && cellsB 4 P.f3))) := rfl
  obtain ⟨b0, h0⟩ : ∃ r, inR 0 19 P.f0 = r := ⟨_, rfl⟩
  obtain ⟨b1, h1⟩ : ∃ r, cellsB 4 P.f1 = r := ⟨_, rfl⟩
  obtain ⟨b2, h2⟩ : ∃ r, cellsB 3 P.f2 = r := ⟨_, rfl⟩
  obtain ⟨b3, h3⟩ : ∃ r, cellsB 4 P.f3 = r := ⟨_, rfl⟩
  rw [h0] at k0 hst
  rw [h1] at k1 hst
  rw [h2] at k2 hst
  rw [h3] at k3 hst
  rw [hst]
  have k1 := k1 W (Below.refl _ _)
  have k2 := k2 W (Below.refl _ _)
  have k3 := k3 W (Below.refl _ _)
  have x0 : W.cell? ⟨w.heap.size, 0, none⟩ = some (.int .i64 P.f0) := qB.at rfl
  have x1 : W.cell? ⟨w.heap.size, 1, none⟩ = some (.slice a1 P.f1.length c1) := qB.at rfl
  have x2 : W.cell? ⟨w.heap.size, 2, none⟩ = some (.slice a2 P.f2.length c2) := qB.at rfl
  have x3 : W.cell? ⟨w.heap.size, 3, none⟩ = some (.slice a3 P.f3.length c3) := qB.at rfl
  have HW := Lib.hid hWW
  clear h0 h1 h2 h3 hst h hm1 hm2 hm3 hWW
  go_enter Try.func26, Try.ntmps26
  go_upto_region 1 with fail
  rw [HW.out]
  go_wp2_with fail
  go_at_call 57
  refine (k0 _).mono ?_
  rintro e w1 ⟨rfl, rfl⟩
  cases b0
  · go_wp2
    go_ret
    exact ⟨rfl, hBW⟩
  go_wp2_with fail
  go_at_call 58
  refine k1.mono ?_
  rintro e w1 ⟨rfl, rfl⟩
  cases b1
  · go_wp2
    go_ret
    exact ⟨rfl, hBW⟩
  go_wp2_with fail
  go_at_call 58
  refine k2.mono ?_
  rintro e w1 ⟨rfl, rfl⟩
  cases b2
  · go_wp2
    go_ret
    exact ⟨rfl, hBW⟩
  go_wp2_with fail
  go_at_call 58
  refine k3.mono ?_
  rintro e w1 ⟨rfl, rfl⟩
  go_wp2
  go_ret
  exact ⟨rfl, hBW⟩

set_option maxHeartbeats 1600000 in
set_option maxRecDepth 100000 in
theorem can_spec (lo hi : Nat) (w : World) (A : Option Addr) (c : Nat) (l : List TOp) (hl : Lies lo hi w (dOp l) (.slice A l.length c)) (hh : hi ≤ w.heap.size) (hm : l.length ≤ 1048576) (P : TState) (a1 : Option Addr) (c1 : Nat) (a2 : Option Addr) (c2 : Nat) (a3 : Option Addr) (c3 : Nat) (h : St w P a1 c1 a2 c2 a3 c3) (hm1 : P.f1.length ≤ 1048576) (hm2 : P.f2.length ≤ 1048576) (hm3 : P.f3.length ≤ 1048576) :
    Calls Try.prog 60 #[.slice A l.length c, .agg #[.int .i64 P.f0, .slice a1 P.f1.length c1, .slice a2 P.f2.length c2, .slice a3 P.f3.length c3]] w fun e w' => e = .returned (.bool (canB l P)) ∧ Below w.heap.size w w' := by
  obtain ⟨W, hWW⟩ : ∃ Z, w.alloc (.cells #[.int .i64 P.f0, .slice a1 P.f1.length c1, .slice a2 P.f2.length c2, .slice a3 P.f3.length c3] 27) = Z := ⟨_, rfl⟩
  have hBW : Below w.heap.size w W := by rw [← hWW]; exact (Below.refl _ _).alloc (Nat.le_refl _) _
  have qB : Blk 27 w.heap.size [.int .i64 P.f0, .slice a1 P.f1.length c1, .slice a2 P.f2.length c2, .slice a3 P.f3.length c3] W := by rw [← hWW]; exact Blk.new _ [_, _, _, _] w
  have k1 := script_spec lo hi W A c l (hl.below hBW) (Nat.le_trans hh hBW.size) hm
  have k2 := fun (W' : World) (hb : Below W.heap.size W W') => state_spec P W' a1 c1 a2 c2 a3 c3 ((h.below hBW).below hb) hm1 hm2 hm3
  have hst : canB l P = (scriptB l && (stateB P && decide (P.f0 < (l.length : Int)))) := rfl
  obtain ⟨b1, h1⟩ : ∃ r, scriptB l = r := ⟨_, rfl⟩
  obtain ⟨b2, h2⟩ : ∃ r, stateB P = r := ⟨_, rfl⟩
  rw [h1] at k1 hst
  rw [h2] at k2 hst
  rw [hst]
  obtain ⟨n, hn⟩ : ∃ n, l.length = n := ⟨_, rfl⟩
  rw [hn] at k1 ⊢
  have x0 : W.cell? ⟨w.heap.size, 0, none⟩ = some (.int .i64 P.f0) := qB.at rfl
  have x1 : W.cell? ⟨w.heap.size, 1, none⟩ = some (.slice a1 P.f1.length c1) := qB.at rfl
  have x2 : W.cell? ⟨w.heap.size, 2, none⟩ = some (.slice a2 P.f2.length c2) := qB.at rfl
  have x3 : W.cell? ⟨w.heap.size, 3, none⟩ = some (.slice a3 P.f3.length c3) := qB.at rfl
  have HW := Lib.hid hWW
  clear h1 h2 hst h hm1 hm2 hm3 hWW hl hh hm hn
  go_enter Try.func60, Try.ntmps60
  go_upto_region 1 with fail
  rw [HW.out]
  go_wp2_with fail
  go_at_call 80
  refine k1.mono ?_
  rintro e w1 ⟨rfl, hb1⟩
  have hB1 := hBW.trans (hb1.mono hBW.size)
  cases b1
  · go_wp2
    go_ret
    exact ⟨rfl, hB1⟩
  have qB := qB.below hb1
  have k2 := k2 _ hb1
  have x0 : w1.cell? ⟨w.heap.size, 0, none⟩ = some (.int .i64 P.f0) := qB.at rfl
  have x1 : w1.cell? ⟨w.heap.size, 1, none⟩ = some (.slice a1 P.f1.length c1) := qB.at rfl
  have x2 : w1.cell? ⟨w.heap.size, 2, none⟩ = some (.slice a2 P.f2.length c2) := qB.at rfl
  have x3 : w1.cell? ⟨w.heap.size, 3, none⟩ = some (.slice a3 P.f3.length c3) := qB.at rfl
  go_wp2_with fail
  go_at_call 26
  refine k2.mono ?_
  rintro e w2 ⟨rfl, hb2⟩
  have hB2 := hB1.trans (hb2.mono hB1.size)
  cases b2
  · go_wp2
    go_ret
    exact ⟨rfl, hB2⟩
  have qB := qB.below hb2
  have x0 : w2.cell? ⟨w.heap.size, 0, none⟩ = some (.int .i64 P.f0) := qB.at rfl
  have x1 : w2.cell? ⟨w.heap.size, 1, none⟩ = some (.slice a1 P.f1.length c1) := qB.at rfl
  have x2 : w2.cell? ⟨w.heap.size, 2, none⟩ = some (.slice a2 P.f2.length c2) := qB.at rfl
  have x3 : w2.cell? ⟨w.heap.size, 3, none⟩ = some (.slice a3 P.f3.length c3) := qB.at rfl
  go_wp2
  go_ret
  exact ⟨by simp, hB2⟩

set_option maxHeartbeats 800000 in
set_option maxRecDepth 100000 in
theorem done_spec (w : World) (A : Option Addr) (c n : Nat) (P : TState) (a1 : Option Addr) (c1 : Nat) (a2 : Option Addr) (c2 : Nat) (a3 : Option Addr) (c3 : Nat) :
    Calls Try.prog 35 #[.slice A n c, .agg #[.int .i64 P.f0, .slice a1 P.f1.length c1, .slice a2 P.f2.length c2, .slice a3 P.f3.length c3]] w fun e w' => e = .returned (.bool (decide ((n : Int) ≤ P.f0))) ∧ Below w.heap.size w w' := by
  obtain ⟨W, hWW⟩ : ∃ Z, w.alloc (.cells #[.int .i64 P.f0, .slice a1 P.f1.length c1, .slice a2 P.f2.length c2, .slice a3 P.f3.length c3] 27) = Z := ⟨_, rfl⟩
  have hBW : Below w.heap.size w W := by rw [← hWW]; exact (Below.refl _ _).alloc (Nat.le_refl _) _
  have qB : Blk 27 w.heap.size [.int .i64 P.f0, .slice a1 P.f1.length c1, .slice a2 P.f2.length c2, .slice a3 P.f3.length c3] W := by rw [← hWW]; exact Blk.new _ [_, _, _, _] w
  have x0 : W.cell? ⟨w.heap.size, 0, none⟩ = some (.int .i64 P.f0) := qB.at rfl
  have x1 : W.cell? ⟨w.heap.size, 1, none⟩ = some (.slice a1 P.f1.length c1) := qB.at rfl
  have x2 : W.cell? ⟨w.heap.size, 2, none⟩ = some (.slice a2 P.f2.length c2) := qB.at rfl
  have x3 : W.cell? ⟨w.heap.size, 3, none⟩ = some (.slice a3 P.f3.length c3) := qB.at rfl
  have HW := Lib.hid hWW
  clear hWW
  go_enter Try.func35, Try.ntmps35
  go_upto_region 1 with fail
  rw [HW.out]
  go_wp2
  go_ret
  exact ⟨by first | rfl | simp, hBW⟩


set_option maxHeartbeats 1600000 in
set_option maxRecDepth 100000 in
theorem equal_spec (P Q : TState) (w : World) (a1 : Option Addr) (c1 : Nat) (a2 : Option Addr) (c2 : Nat) (a3 : Option Addr) (c3 : Nat) (h : St w P a1 c1 a2 c2 a3 c3) (e1 : Option Addr) (g1 : Nat) (e2 : Option Addr) (g2 : Nat) (e3 : Option Addr) (g3 : Nat) (k : St w Q e1 g1 e2 g2 e3 g3) (hm1 : P.f1.length ≤ 1048576) (hm2 : P.f2.length ≤ 1048576) (hm3 : P.f3.length ≤ 1048576) (hn1 : Q.f1.length ≤ 1048576) (hn2 : Q.f2.length ≤ 1048576) (hn3 : Q.f3.length ≤ 1048576) :
    Calls Try.prog 36 #[.agg #[.int .i64 P.f0, .slice a1 P.f1.length c1, .slice a2 P.f2.length c2, .slice a3 P.f3.length c3], .agg #[.int .i64 Q.f0, .slice e1 Q.f1.length g1, .slice e2 Q.f2.length g2, .slice e3 Q.f3.length g3]] w fun e w' => e = .returned (.bool (sameB P Q)) ∧ Below w.heap.size w w' := by
  obtain ⟨W, hWW⟩ : ∃ Z, w.alloc (.cells #[.int .i64 P.f0, .slice a1 P.f1.length c1, .slice a2 P.f2.length c2, .slice a3 P.f3.length c3] 27) = Z := ⟨_, rfl⟩
  have hBW : Below w.heap.size w W := by rw [← hWW]; exact (Below.refl _ _).alloc (Nat.le_refl _) _
  have qB : Blk 27 w.heap.size [.int .i64 P.f0, .slice a1 P.f1.length c1, .slice a2 P.f2.length c2, .slice a3 P.f3.length c3] W := by rw [← hWW]; exact Blk.new _ [_, _, _, _] w
  obtain ⟨V, hWV⟩ : ∃ Z, W.alloc (.cells #[.int .i64 Q.f0, .slice e1 Q.f1.length g1, .slice e2 Q.f2.length g2, .slice e3 Q.f3.length g3] 27) = Z := ⟨_, rfl⟩
  have hBV : Below W.heap.size W V := by rw [← hWV]; exact (Below.refl _ _).alloc (Nat.le_refl _) _
  have qC : Blk 27 W.heap.size [.int .i64 Q.f0, .slice e1 Q.f1.length g1, .slice e2 Q.f2.length g2, .slice e3 Q.f3.length g3] V := by rw [← hWV]; exact Blk.new _ [_, _, _, _] W
  have qB := qB.below hBV
  have hs : W.heap.size = w.heap.size + 1 := by rw [← hWW, gsize_alloc]
  rw [hs] at qC
  have hB : Below w.heap.size w V := hBW.trans (hBV.mono hBW.size)
  have k1 := fun (W' : World) (hb : Below V.heap.size V W') => EqI.spec_below 0 w.heap.size 0 w.heap.size W' a1 e1 _ _ c1 g1 P.f1 Q.f1 (((h.r1.below hB).below hb).row'.1) (((k.r1.below hB).below hb).row'.1) (by omega) (by omega)
  have k2 := fun (W' : World) (hb : Below V.heap.size V W') => EqI.spec_below 0 w.heap.size 0 w.heap.size W' a2 e2 _ _ c2 g2 P.f2 Q.f2 (((h.r2.below hB).below hb).row'.1) (((k.r2.below hB).below hb).row'.1) (by omega) (by omega)
  have k3 := fun (W' : World) (hb : Below V.heap.size V W') => EqI.spec_below 0 w.heap.size 0 w.heap.size W' a3 e3 _ _ c3 g3 P.f3 Q.f3 (((h.r3.below hB).below hb).row'.1) (((k.r3.below hB).below hb).row'.1) (by omega) (by omega)
  have hst : sameB P Q = ((P.f0 == Q.f0) && (decide (P.f1 = Q.f1) && (decide (P.f2 = Q.f2) && decide (P.f3 = Q.f3)))) := rfl
  obtain ⟨b0, h0⟩ : ∃ r, (P.f0 == Q.f0) = r := ⟨_, rfl⟩
  obtain ⟨b1, h1⟩ : ∃ r, decide (P.f1 = Q.f1) = r := ⟨_, rfl⟩
  obtain ⟨b2, h2⟩ : ∃ r, decide (P.f2 = Q.f2) = r := ⟨_, rfl⟩
  obtain ⟨b3, h3⟩ : ∃ r, decide (P.f3 = Q.f3) = r := ⟨_, rfl⟩
  rw [h0, h1, h2, h3] at hst
  rw [h1] at k1
  rw [h2] at k2
  rw [h3] at k3
  rw [hst]
  have HW : Hid ((w.alloc (.cells #[.int .i64 P.f0, .slice a1 P.f1.length c1, .slice a2 P.f2.length c2, .slice a3 P.f3.length c3] 27)).alloc (.cells #[.int .i64 Q.f0, .slice e1 Q.f1.length g1, .slice e2 Q.f2.length g2, .slice e3 Q.f3.length g3] 27) = V) := Lib.hid (by rw [hWW, hWV])
  have x0 : V.cell? ⟨w.heap.size, 0, none⟩ = some (.int .i64 P.f0) := qB.at rfl
  have x1 : V.cell? ⟨w.heap.size, 1, none⟩ = some (.slice a1 P.f1.length c1) := qB.at rfl
  have x2 : V.cell? ⟨w.heap.size, 2, none⟩ = some (.slice a2 P.f2.length c2) := qB.at rfl
  have x3 : V.cell? ⟨w.heap.size, 3, none⟩ = some (.slice a3 P.f3.length c3) := qB.at rfl
  have y0 : V.cell? ⟨w.heap.size + 1, 0, none⟩ = some (.int .i64 Q.f0) := qC.at rfl
  have y1 : V.cell? ⟨w.heap.size + 1, 1, none⟩ = some (.slice e1 Q.f1.length g1) := qC.at rfl
  have y2 : V.cell? ⟨w.heap.size + 1, 2, none⟩ = some (.slice e2 Q.f2.length g2) := qC.at rfl
  have y3 : V.cell? ⟨w.heap.size + 1, 3, none⟩ = some (.slice e3 Q.f3.length g3) := qC.at rfl
  clear hst h k h1 h2 h3 hm1 hm2 hm3 hn1 hn2 hn3 hWW hWV hBW hBV hs
  go_enter Try.func36, Try.ntmps36
  go_upto_region 1 with fail
  rw [HW.out]
  cases b0
  · go_wp2
    go_ret
    exact ⟨rfl, hB⟩
  go_wp2_with fail
  go_at_call 68
  refine (k1 V (Below.refl _ _)).mono ?_
  rintro e w1 ⟨rfl, hb1⟩
  have hB1 := hB.trans (hb1.mono hB.size)
  cases b1
  · go_wp2
    go_ret
    exact ⟨rfl, hB1⟩
  have qB := qB.below hb1
  have qC := qC.below hb1
  have x0 : w1.cell? ⟨w.heap.size, 0, none⟩ = some (.int .i64 P.f0) := qB.at rfl
  have x1 : w1.cell? ⟨w.heap.size, 1, none⟩ = some (.slice a1 P.f1.length c1) := qB.at rfl
  have x2 : w1.cell? ⟨w.heap.size, 2, none⟩ = some (.slice a2 P.f2.length c2) := qB.at rfl
  have x3 : w1.cell? ⟨w.heap.size, 3, none⟩ = some (.slice a3 P.f3.length c3) := qB.at rfl
  have y0 : w1.cell? ⟨w.heap.size + 1, 0, none⟩ = some (.int .i64 Q.f0) := qC.at rfl
  have y1 : w1.cell? ⟨w.heap.size + 1, 1, none⟩ = some (.slice e1 Q.f1.length g1) := qC.at rfl
  have y2 : w1.cell? ⟨w.heap.size + 1, 2, none⟩ = some (.slice e2 Q.f2.length g2) := qC.at rfl
  have y3 : w1.cell? ⟨w.heap.size + 1, 3, none⟩ = some (.slice e3 Q.f3.length g3) := qC.at rfl
  have k2 := k2 _ hb1
  go_wp2_with fail
  go_at_call 68
  refine k2.mono ?_
  rintro e w2 ⟨rfl, hb2⟩
  have hB2 := hB1.trans (hb2.mono hB1.size)
  cases b2
  · go_wp2
    go_ret
    exact ⟨rfl, hB2⟩
  have qB := qB.below hb2
  have qC := qC.below hb2
  have x0 : w2.cell? ⟨w.heap.size, 0, none⟩ = some (.int .i64 P.f0) := qB.at rfl
  have x1 : w2.cell? ⟨w.heap.size, 1, none⟩ = some (.slice a1 P.f1.length c1) := qB.at rfl
  have x2 : w2.cell? ⟨w.heap.size, 2, none⟩ = some (.slice a2 P.f2.length c2) := qB.at rfl
  have x3 : w2.cell? ⟨w.heap.size, 3, none⟩ = some (.slice a3 P.f3.length c3) := qB.at rfl
  have y0 : w2.cell? ⟨w.heap.size + 1, 0, none⟩ = some (.int .i64 Q.f0) := qC.at rfl
  have y1 : w2.cell? ⟨w.heap.size + 1, 1, none⟩ = some (.slice e1 Q.f1.length g1) := qC.at rfl
  have y2 : w2.cell? ⟨w.heap.size + 1, 2, none⟩ = some (.slice e2 Q.f2.length g2) := qC.at rfl
  have y3 : w2.cell? ⟨w.heap.size + 1, 3, none⟩ = some (.slice e3 Q.f3.length g3) := qC.at rfl
  have k3 := k3 _ (hb1.trans (hb2.mono hb1.size))
  go_wp2_with fail
  go_at_call 68
  refine k3.mono ?_
  rintro e w3 ⟨rfl, hb3⟩
  go_wp2
  go_ret
  exact ⟨rfl, hB2.trans (hb3.mono hB2.size)⟩

end Go.Proofs.Ytbohkohccnieiaa.Mach
