/-
  The machine, the model: the state after a step.
  Conditions: the rows lie in memory, with 2^20 numbers at most.
-/
import Derived.Test.YtbohkohccnieiaaMachW
import Derived.Test.YtbohkohccnieiaaMinMax
namespace Go.Proofs.Ytbohkohccnieiaa.Mach
open Go Go.RowKit Go.Proofs.Ytbohkohccnieiaa.Mem Go.Proofs.Ytbohkohccnieiaa.Gen Go.Proofs.Ytbohkohccnieiaa.Scripts

theorem given_rows {w V : World} {R : TState} {n1 n2 n3 : Nat} {z : Int} {x1 x2 x3 : Option Addr} {y1 y2 y3 : Nat} {S1 S2 S3 : Nat → Prop} (e0 : R.f0 = z) (e1 : R.f1.length = n1) (e2 : R.f2.length = n2) (e3 : R.f3.length = n3)
    (o1 : Owns V (ints R.f1) (.slice x1 n1 y1) S1) (o2 : Owns V (ints R.f2) (.slice x2 n2 y2) S2) (o3 : Owns V (ints R.f3) (.slice x3 n3 y3) S3)
    (u1 : ∀ t, S1 t → w.heap.size ≤ t ∧ t < V.heap.size) (u2 : ∀ t, S2 t → w.heap.size ≤ t ∧ t < V.heap.size) (u3 : ∀ t, S3 t → w.heap.size ≤ t ∧ t < V.heap.size)
    (d12 : ∀ t, S1 t → ¬ S2 t) (d13 : ∀ t, S1 t → ¬ S3 t) (d23 : ∀ t, S2 t → ¬ S3 t) (hb : Below w.heap.size w V) :
    GivenS w R (.returned (.agg #[.int .i64 z, .slice x1 n1 y1, .slice x2 n2 y2, .slice x3 n3 y3])) V := by
  subst e0 e1 e2 e3
  exact ⟨x1, y1, S1, x2, y2, S2, x3, y3, S3, rfl, o1, o2, o3, u1, u2, u3, Far.of_owns o1 o2 d12, Far.of_owns o1 o3 d13, Far.of_owns o2 o3 d23, hb⟩
/-- A number written into a row of a call's own. -/
theorem owns_put {w : World} {zs : List Int} {a : Option Addr} {n c j : Nat} {S : Nat → Prop} (h : Owns w (ints zs) (.slice a n c) S) (hn : zs.length = n) (hj : j < n) :
    ∃ b off, a = some ⟨b, off, none⟩ ∧ S b ∧ w.cell? ⟨b, off + j, none⟩ = some (.int .i64 (zs.getD j 0)) ∧ w.frozen? ⟨b, off + j, none⟩ = false ∧
      ∀ v, (Lit.int .i64 v).wf = true → Owns (w.setCell ⟨b, off + j, none⟩ (.int .i64 v)) (ints (zs.set j v)) (.slice a n c) S := by
  subst hn
  obtain ⟨A, c', lo, hi, e, h1, h2, ho, hS⟩ := h.row
  injection e with e1 _ e3
  subst e1 e3
  obtain ⟨b, off, rfl, k1, k2, k3⟩ := ho.here (by omega)
  refine ⟨b, off, rfl, hS b k1 k2, (k3 j hj).1, (k3 j hj).2, fun v hv => ?_⟩
  have := Owns.of_row (ho.set j v hj hv) h1 h2 hS
  exact this
theorem owns_put_at {w : World} {zs : List Int} {b off n c j : Nat} {S : Nat → Prop} (h : Owns w (ints zs) (.slice (some ⟨b, off, none⟩) n c) S) (hn : zs.length = n) (hj : j < n) (v : Int) (hv : (Lit.int .i64 v).wf = true) :
    Owns (w.setCell ⟨b, off + j, none⟩ (.int .i64 v)) (ints (zs.set j v)) (.slice (some ⟨b, off, none⟩) n c) S := by
  obtain ⟨b', off', e, _, _, _, h2⟩ := owns_put h hn hj
  injection e with e
  injection e with e1 e2
  subst e1 e2
  exact h2 v hv
theorem wf_in {z : Int} (h0 : 0 ≤ z) (h1 : z ≤ 999) : (Lit.int .i64 z).wf = true := WalkArith.wf_i64 (by omega)

set_option maxHeartbeats 8000000 in
set_option maxRecDepth 100000 in
theorem step_spec (lo hi : Nat) (w : World) (A : Option Addr) (c : Nat) (l : List TOp) (hl : Lies lo hi w (dOp l) (.slice A l.length c)) (hh : hi ≤ w.heap.size) (hm : l.length ≤ 1048576) (P : TState) (a1 : Option Addr) (c1 : Nat) (a2 : Option Addr) (c2 : Nat) (a3 : Option Addr) (c3 : Nat) (h : St w P a1 c1 a2 c2 a3 c3) (hm1 : P.f1.length ≤ 1048576) (hm2 : P.f2.length ≤ 1048576) (hm3 : P.f3.length ≤ 1048576) (v : Int) :
    Calls Try.prog 33 #[.slice A l.length c, .agg #[.int .i64 P.f0, .slice a1 P.f1.length c1, .slice a2 P.f2.length c2, .slice a3 P.f3.length c3], .int .i64 v] w (GivenS w (step l P v)) := by
  obtain ⟨W, hWW⟩ : ∃ Z, w.alloc (.cells #[.int .i64 P.f0, .slice a1 P.f1.length c1, .slice a2 P.f2.length c2, .slice a3 P.f3.length c3] 27) = Z := ⟨_, rfl⟩
  have hBW : Below w.heap.size w W := by rw [← hWW]; exact (Below.refl _ _).alloc (Nat.le_refl _) _
  have qB : Blk 27 w.heap.size [.int .i64 P.f0, .slice a1 P.f1.length c1, .slice a2 P.f2.length c2, .slice a3 P.f3.length c3] W := by rw [← hWW]; exact Blk.new _ [_, _, _, _] w
  obtain ⟨V, hWV⟩ : ∃ Z, W.alloc (.cells #[.int .i64 0, .slice none 0 0, .slice none 0 0, .slice none 0 0] 27) = Z := ⟨_, rfl⟩
  have hs : W.heap.size = w.heap.size + 1 := by rw [← hWW, gsize_alloc]
  have hBV : Below W.heap.size W V := by rw [← hWV]; exact (Below.refl _ _).alloc (Nat.le_refl _) _
  have qR : Blk 27 (w.heap.size + 1) [.int .i64 0, .slice none 0 0, .slice none 0 0, .slice none 0 0] V := by rw [← hs, ← hWV]; exact Blk.new _ [_, _, _, _] W
  have qB := qB.below hBV
  have hB : Below w.heap.size w V := hBW.trans (hBV.mono hBW.size)
  have hsV : w.heap.size + 2 ≤ V.heap.size := by have := qR.lt; omega
  have hcopy := copy_spec P V a1 c1 a2 c2 a3 c3 (h.below hB) hm1 hm2 hm3
  have hcan := fun (W' : World) (hb : Below w.heap.size w W') => can_spec lo hi W' A c l (hl.below hb) (Nat.le_trans hh hb.size) hm P a1 c1 a2 c2 a3 c3 (h.below hb) hm1 hm2 hm3
  have HW : Hid ((w.alloc (.cells #[.int .i64 P.f0, .slice a1 P.f1.length c1, .slice a2 P.f2.length c2, .slice a3 P.f3.length c3] 27)).alloc (.cells #[.int .i64 0, .slice none 0 0, .slice none 0 0, .slice none 0 0] 27) = V) := Lib.hid (by rw [hWW, hWV])
  obtain ⟨n, hn⟩ : ∃ n, l.length = n := ⟨_, rfl⟩
  have HN := Lib.hid hn
  have x0 : V.cell? ⟨w.heap.size, 0, none⟩ = some (.int .i64 P.f0) := qB.at rfl
  have x1 : V.cell? ⟨w.heap.size, 1, none⟩ = some (.slice a1 P.f1.length c1) := qB.at rfl
  have x2 : V.cell? ⟨w.heap.size, 2, none⟩ = some (.slice a2 P.f2.length c2) := qB.at rfl
  have x3 : V.cell? ⟨w.heap.size, 3, none⟩ = some (.slice a3 P.f3.length c3) := qB.at rfl
  clear hWW hWV hBW hBV hs
  rw [hn]
  simp only [hn] at hcan
  obtain ⟨R, hR⟩ : ∃ R, step l P v = R := ⟨_, rfl⟩
  rw [hR]
  have HR := Lib.hid hR
  clear hR
  go_enter Try.func33, Try.ntmps33
  go_upto_region 1 with fail
  rw [HW.out]
  go_wp2_with fail
  go_at_call 65
  refine hcopy.mono ?_
  rintro e w1 ⟨k1, y1, S1, k2, y2, S2, k3, y3, S3, rfl, o1, o2, o3, u1, u2, u3, d12, d13, d23, hb1⟩
  have hz1 := hb1.size
  obtain ⟨V2, hV2⟩ : ∃ V2, w1.alloc (.cells #[.int .i64 P.f0, .slice k1 P.f1.length y1, .slice k2 P.f2.length y2, .slice k3 P.f3.length y3] 27) = V2 := ⟨_, rfl⟩
  have hA2 : Below w1.heap.size w1 V2 := by rw [← hV2]; exact (Below.refl _ _).alloc (Nat.le_refl _) _
  have qX : Blk 27 w1.heap.size [.int .i64 P.f0, .slice k1 P.f1.length y1, .slice k2 P.f2.length y2, .slice k3 P.f3.length y3] V2 := by rw [← hV2]; exact Blk.new _ [_, _, _, _] w1
  have qB := (qB.below hb1).below hA2
  have qR := (qR.below hb1).below hA2
  have o1 := Owns.below o1 hA2
  have o2 := Owns.below o2 hA2
  have o3 := Owns.below o3 hA2
  have hB2 := (hB.trans (hb1.mono hB.size)).trans (hA2.mono (by omega))
  have hz2 : w1.heap.size + 1 ≤ V2.heap.size := qX.lt
  have HV2 := Lib.hid hV2
  have hcan2 := hcan V2 hB2
  have x0 : V2.cell? ⟨w.heap.size, 0, none⟩ = some (.int .i64 P.f0) := qB.at rfl
  have x1 : V2.cell? ⟨w.heap.size, 1, none⟩ = some (.slice a1 P.f1.length c1) := qB.at rfl
  have x2 : V2.cell? ⟨w.heap.size, 2, none⟩ = some (.slice a2 P.f2.length c2) := qB.at rfl
  have x3 : V2.cell? ⟨w.heap.size, 3, none⟩ = some (.slice a3 P.f3.length c3) := qB.at rfl
  clear hV2 hA2 hb1 hcopy hcan
  go_upto_region 2 with fail
  rw [HV2.out]
  go_wp2_with fail
  go_at_call 60
  refine hcan2.mono ?_
  rintro e w2 ⟨rfl, hb2⟩
  have qX := qX.below hb2
  have qB := qB.below hb2
  have qR := qR.below hb2
  have o1 := Owns.below o1 hb2
  have o2 := Owns.below o2 hb2
  have o3 := Owns.below o3 hb2
  have hB3 := hB2.trans (hb2.mono hB2.size)
  have hz3 := hb2.size
  clear x0 x1 x2 x3 hcan2 hb2
  cases hcb : canB l P with
  | false =>
    have hw : step l P v = P := by unfold step; rw [if_neg (by rw [hcb]; simp)]
    have hRP : R = P := by rw [← HR.out]; exact hw
    clear hw hcb h hl hh hm HN hn
    have s0 := qR.at (x := 0) rfl
    have s1 := qR.at (x := 1) rfl
    have s2 := qR.at (x := 2) rfl
    have s3 := qR.at (x := 3) rfl
    have t0 := qR.free 0
    have t1 := qR.free 1
    have t2 := qR.free 2
    have t3 := qR.free 3
    have v0 := qX.at (x := 0) rfl
    have v1 := qX.at (x := 1) rfl
    have v2 := qX.at (x := 2) rfl
    have v3 := qX.at (x := 3) rfl
    have qF := (((qR.set 0 (.int .i64 P.f0)).set 1 (.slice k1 P.f1.length y1)).set 2 (.slice k2 P.f2.length y2)).set 3 (.slice k3 P.f3.length y3)
    simp only [List.set_cons_zero, List.set_cons_succ] at qF
    have hkeep : ∀ t, t ≠ w.heap.size + 1 → (((((w2).setCell ⟨w.heap.size + 1, 0, none⟩ (.int .i64 P.f0)).setCell ⟨w.heap.size + 1, 1, none⟩ (.slice k1 P.f1.length y1)).setCell ⟨w.heap.size + 1, 2, none⟩ (.slice k2 P.f2.length y2)).setCell ⟨w.heap.size + 1, 3, none⟩ (.slice k3 P.f3.length y3)).heap[t]? = (w2).heap[t]? := fun t hne => by
      rw [heap_setCell_other _ _ t _ (by dsimp only; omega), heap_setCell_other _ _ t _ (by dsimp only; omega), heap_setCell_other _ _ t _ (by dsimp only; omega), heap_setCell_other _ _ t _ (by dsimp only; omega)]
    have hFB := (((hB3.setCell (p := ⟨w.heap.size + 1, 0, none⟩) (by dsimp only; omega) (.int .i64 P.f0)).setCell (p := ⟨w.heap.size + 1, 1, none⟩) (by dsimp only; omega) (.slice k1 P.f1.length y1)).setCell (p := ⟨w.heap.size + 1, 2, none⟩) (by dsimp only; omega) (.slice k2 P.f2.length y2)).setCell (p := ⟨w.heap.size + 1, 3, none⟩) (by dsimp only; omega) (.slice k3 P.f3.length y3)
    have hFS : (((((w2).setCell ⟨w.heap.size + 1, 0, none⟩ (.int .i64 P.f0)).setCell ⟨w.heap.size + 1, 1, none⟩ (.slice k1 P.f1.length y1)).setCell ⟨w.heap.size + 1, 2, none⟩ (.slice k2 P.f2.length y2)).setCell ⟨w.heap.size + 1, 3, none⟩ (.slice k3 P.f3.length y3)).heap.size = (w2).heap.size := by simp only [gsize_set]
    obtain ⟨VF, hVF⟩ : ∃ VF, ((((w2).setCell ⟨w.heap.size + 1, 0, none⟩ (.int .i64 P.f0)).setCell ⟨w.heap.size + 1, 1, none⟩ (.slice k1 P.f1.length y1)).setCell ⟨w.heap.size + 1, 2, none⟩ (.slice k2 P.f2.length y2)).setCell ⟨w.heap.size + 1, 3, none⟩ (.slice k3 P.f3.length y3) = VF := ⟨_, rfl⟩
    rw [hVF] at qF hFB hFS
    simp only [hVF] at hkeep
    have g0 := qF.at (x := 0) rfl
    have g1 := qF.at (x := 1) rfl
    have g2 := qF.at (x := 2) rfl
    have g3 := qF.at (x := 3) rfl
    have m1 := Owns.keep o1 (w' := VF) (fun t ht hS => hkeep t (by have := u1 t hS; omega))
    have m2 := Owns.keep o2 (w' := VF) (fun t ht hS => hkeep t (by have := u2 t hS; omega))
    have m3 := Owns.keep o3 (w' := VF) (fun t ht hS => hkeep t (by have := u3 t hS; omega))
    have HVF := Lib.hid hVF
    have HG := Lib.hid (given_rows (w := w) (R := P) rfl rfl rfl rfl m1 m2 m3 (fun t hS => by have := u1 t hS; omega) (fun t hS => by have := u2 t hS; omega) (fun t hS => by have := u3 t hS; omega) d12 d13 d23 hFB)
    clear hVF hkeep m1 m2 m3 hFB hFS qF
    try clear tput
    try clear o15
    try clear o25
    try clear o35
    try clear o1
    try clear o2
    try clear o3
    try clear qX5
    try clear qR5
    try clear qB5
    try clear qO5
    try clear qX
    try clear qR
    try clear qB
    try clear qO
    try clear hB5
    try clear hB4
    try clear hB3
    try clear hB2
    try clear hB
    try clear d12
    try clear d13
    try clear d23
    try clear u1
    try clear u2
    try clear u3
    try clear tc
    try clear tf
    try clear hz5
    try clear hz4
    try clear hz3
    try clear hz2
    try clear hz1
    try clear hsV
    try clear tub
    try clear hSt
    try clear s9
    try clear hHeld
    try clear ry
    try clear rz
    try clear ry5
    try clear rz5
    try clear bdy
    try clear bdz
    try clear hrb1
    try clear hrb2
    try clear hr1
    try clear hr2
    try clear hg1
    try clear hg2
    try clear htm
    try clear hm0
    try clear hmin
    try clear hmax
    try clear htin
    try clear hj19
    try clear hjl
    try clear hp19
    try clear hknd
    try clear hnums
    try clear z0
    try clear hs5
    try clear hbt
    go_wp2
    rw [HVF.out]
    refine bodyPost_ret (v := .agg #[.int .i64 P.f0, .slice k1 P.f1.length y1, .slice k2 P.f2.length y2, .slice k3 P.f3.length y3]) (by simp [results, Try.results33, go_sem, g0, g1, g2, g3]) rfl ?_
    rw [hRP]
    exact HG.out
  | true =>
    obtain ⟨hsc, hst, hp0, hpn⟩ := can_at hcb
    obtain ⟨hc1, hc2, hc3, _, hp19⟩ := state_at hst
    obtain ⟨j, hj⟩ : ∃ j : Nat, P.f0 = (j : Int) := ⟨P.f0.toNat, by omega⟩
    have hjl : j < l.length := by omega
    have hok := ok_at hsc hjl
    have hknd := kind_at hok
    have hnums := nums_at hok
    have hstep : step l P v = stepped (l.getD j nOp) P v := by
      unfold step opAt
      rw [hcb, hj, Int.toNat_natCast]
      simp
    have hRS : R = stepped (l.getD j nOp) P v := by rw [← HR.out]; exact hstep
    have hcop := at_Op (hl.below hB3) hjl
    have hl1 : P.f1.length = 4 := by have := (cellsB_at hc1).1; omega
    have hl2 : P.f2.length = 3 := by have := (cellsB_at hc2).1; omega
    have hl3 : P.f3.length = 4 := by have := (cellsB_at hc3).1; omega
    obtain ⟨rb1, ro1, ea1, _, hrb1, hr1⟩ := (h.r1.row'.1).here (by omega)
    obtain ⟨rb2, ro2, ea2, _, hrb2, hr2⟩ := (h.r2.row'.1).here (by omega)
    have hg1 := fun (i : Nat) (hi : i < 4) => cellsB_get hc1 (j := i) (by omega)
    have hg2 := fun (i : Nat) (hi : i < 3) => cellsB_get hc2 (j := i) (by omega)
    simp only [hl1] at hr1
    simp only [hl2] at hr2
    obtain ⟨o, ho⟩ : ∃ o, l.getD j nOp = o := ⟨_, rfl⟩
    rw [ho] at hok hknd hnums hcop hRS
    have HRS := Lib.hid hRS
    clear hRS
    have hp0' := hj
    rw [hl1] at qX qB o1
    rw [hl2] at qX qB o2
    rw [hl3] at qX qB o3
    rw [hl1, hl2, hl3]
    rw [hj] at qX qB
    rw [hn] at hjl
    rw [hj]
    obtain ⟨b, off, rfl, _, hbh, ⟨y0', y1', y2', y3'⟩, _⟩ := hcop
    subst ea1 ea2
    have HJ := Lib.hid hj
    have HL1 := Lib.hid hl1
    have HL2 := Lib.hid hl2
    have HL3 := Lib.hid hl3
    obtain ⟨ok, hok'⟩ : ∃ k, o.f0 = k := ⟨_, rfl⟩
    have HOK := Lib.hid hok'
    rw [hok'] at y0' hknd
    simp only [hok'] at hnums
    have hj19 : (j : Int) ≤ 19 := by omega
    have x0w : w2.cell? ⟨w.heap.size, 0, none⟩ = some (.int .i64 (j : Int)) := qB.at rfl
    obtain ⟨VO, hVO⟩ : ∃ VO, w2.alloc (.cells #[.int .i64 ok, .int .i64 o.f1, .int .i64 o.f2, .int .i64 o.f3] 71) = VO := ⟨_, rfl⟩
    have hA3 : Below w2.heap.size w2 VO := by rw [← hVO]; exact (Below.refl _ _).alloc (Nat.le_refl _) _
    have qO0 : Blk 71 w2.heap.size [.int .i64 ok, .int .i64 o.f1, .int .i64 o.f2, .int .i64 o.f3] VO := by rw [← hVO]; exact Blk.new _ [_, _, _, _] w2
    have HVO := Lib.hid hVO
    obtain ⟨V3, hV3⟩ : ∃ V3, VO.setCell ⟨w1.heap.size, 0, none⟩ (.int .i64 ((j : Int) + 1)) = V3 := ⟨_, rfl⟩
    have x0 : VO.cell? ⟨w.heap.size, 0, none⟩ = some (.int .i64 (j : Int)) := (qB.below hA3).at rfl
    have z0 : VO.cell? ⟨w1.heap.size, 0, none⟩ = some (.int .i64 (j : Int)) := (qX.below hA3).at rfl
    have d0 := (qX.below hA3).free 0
    have qO : Blk 71 w2.heap.size [.int .i64 ok, .int .i64 o.f1, .int .i64 o.f2, .int .i64 o.f3] V3 := by rw [← hV3]; exact qO0.other _ (by dsimp only; omega)
    have qB : Blk 27 w.heap.size [.int .i64 (j : Int), .slice (some ⟨rb1, ro1, none⟩) 4 c1, .slice (some ⟨rb2, ro2, none⟩) 3 c2, .slice a3 4 c3] V3 := by rw [← hV3]; exact (qB.below hA3).other _ (by dsimp only; omega)
    have qR := by have q := (qR.below hA3).other (a := ⟨w1.heap.size, 0, none⟩) (.int .i64 ((j : Int) + 1)) (by dsimp only; omega); rw [hV3] at q; exact q
    have qX0 := qX.below hA3
    have qX : Blk 27 w1.heap.size [.int .i64 ((j : Int) + 1), .slice k1 4 y1, .slice k2 3 y2, .slice k3 4 y3] V3 := by rw [← hV3]; exact qX0.set 0 _
    have hold : ∀ t, t < w2.heap.size → t ≠ w1.heap.size → V3.heap[t]? = w2.heap[t]? := fun t ht hne => by
      rw [← hV3]
      exact (heap_setCell_other _ _ t _ (by dsimp only; omega)).trans (hA3.block t ht)
    have o1 := Owns.keep o1 (w' := V3) (fun t ht hS => hold t ht (by have := u1 t hS; omega))
    have o2 := Owns.keep o2 (w' := V3) (fun t ht hS => hold t ht (by have := u2 t hS; omega))
    have o3 := Owns.keep o3 (w' := V3) (fun t ht hS => hold t ht (by have := u3 t hS; omega))
    have hB4 : Below w.heap.size w V3 := by rw [← hV3]; exact (hB3.trans (hA3.mono hB3.size)).setCell (by dsimp only; omega) _
    have hz4 : w2.heap.size + 1 ≤ V3.heap.size := qO.lt
    have hr1 := fun i hi => (Mem.cell_of_heap (hB4.block rb1 hrb1)).trans (hr1 i hi)
    have hr2 := fun i hi => (Mem.cell_of_heap (hB4.block rb2 hrb2)).trans (hr2 i hi)
    have HV3 := Lib.hid hV3
    have hok5 := hok'
    clear hV3 hVO hA3 hold qO0 qX0 hok' hst hsc hc1 hc2 hc3 hcb h hl hh hm hj hl1 hl2 hl3 hp0 hpn hp0' hm1 hm2 hm3 hok hstep ho
    have HKS := Lib.hid hok5
    clear hok5
    go_upto_region 5 with fail
    rw [HVO.out]
    go_upto_region 6 with fail
    try rw [show wrap64 ((j : Int) + 1) = (j : Int) + 1 from IntWalk.wrap64_in _ ⟨by omega, by omega⟩]
    rw [HV3.out]
    clear x0 z0 d0
    obtain ⟨on1, hon1⟩ : ∃ a : Nat, o.f1 = (a : Int) := ⟨o.f1.toNat, by omega⟩
    have ha4 : on1 < 4 := by omega
    have hai : (on1 : Int) < 4 := by omega
    have HON1 := Lib.hid hon1
    have w0 := qO.at (x := 0) rfl
    rw [hon1] at qO
    clear hon1
    go_upto_block 0 with fail
    go_cut [7] (fun s wx => s = .pointer (some ⟨w1.heap.size, 0, none⟩) ∧ ∃ (pc : Int) (f1 f2 f3 : List Int) (V : World), V = wx ∧ R = ⟨pc, f1, f2, f3⟩ ∧ f1.length = 4 ∧ f2.length = 3 ∧ f3.length = 4 ∧ Blk 27 w1.heap.size [.int .i64 pc, .slice k1 4 y1, .slice k2 3 y2, .slice k3 4 y3] V ∧ Blk 27 (w.heap.size + 1) [.int .i64 0, .slice none 0 0, .slice none 0 0, .slice none 0 0] V ∧
      Owns V (ints f1) (.slice k1 4 y1) S1 ∧ Owns V (ints f2) (.slice k2 3 y2) S2 ∧ Owns V (ints f3) (.slice k3 4 y3) S3 ∧ Below w.heap.size w V ∧ w2.heap.size + 1 ≤ V.heap.size)
    case first =>
      rcases kinds ok hknd.1 hknd.2
      · obtain ⟨tv, htv⟩ : ∃ t, taken v = t := ⟨_, rfl⟩
        have htin : 0 ≤ tv ∧ tv ≤ 999 := by rw [← htv]; exact taken_in v
        obtain ⟨mv, hmv⟩ : ∃ m : Int, (if 999 < v then 999 else v) = m := ⟨_, rfl⟩
        have hmin := fun W => MinMax.min_spec 999 v mv W (by rw [← hmv]; by_cases h9 : 999 < v <;> simp [h9] <;> omega)
        have hmax := fun W => MinMax.max_spec 0 mv tv W (by rw [← htv, ← hmv]; unfold taken; by_cases h0 : v < 0 <;> by_cases h9 : 999 < v <;> simp [h0, h9] <;> omega)
        have HTV := Lib.hid htv
        clear htv hmv
        obtain ⟨tb, toff, hk, hSt, tc, tf, tput⟩ := owns_put o1 HL1.out (j := on1) (by omega)
        subst hk
        have tput := tput tv (wf_in (by omega) (by omega))
        have tub := u1 tb hSt
        go_upto_region 7 with fail
        obtain ⟨V4, hV4⟩ : ∃ V4, V3.drew = V4 := ⟨_, rfl⟩
        have hA4 : Below V3.heap.size V3 V4 := by rw [← hV4]; exact gbelow_drewN (Below.refl _ _) 1
        have tput : Owns (V4.setCell ⟨tb, toff + on1, none⟩ (.int .i64 tv)) (ints (P.f1.set on1 tv)) (.slice (some ⟨tb, toff, none⟩) 4 y1) S1 := by rw [← hV4]; exact tput.keep (fun _ _ _ => rfl)
        have qX := qX.below hA4
        have qB := qB.below hA4
        have qO := qO.below hA4
        have qR := qR.below hA4
        have hbt : tb < V4.heap.size := Nat.lt_of_lt_of_le (by have := Mem.cell_lt tc; exact this) hA4.size
        have o1 := Owns.below o1 hA4
        have o2 := Owns.below o2 hA4
        have o3 := Owns.below o3 hA4
        have tc := (Mem.cell_of_heap (hA4.block tb (Mem.cell_lt tc))).trans tc
        have tf : V4.frozen? ⟨tb, toff + on1, none⟩ = false := by rw [← hV4]; exact tf
        have hB4 := hB4.trans (hA4.mono hB4.size)
        have hz4 := Nat.le_trans hz4 hA4.size
        have s9 : V4.cell? ⟨w1.heap.size, 1, none⟩ = some (.slice (some ⟨tb, toff, none⟩) 4 y1) ∧ V4.cell? ⟨w2.heap.size, 1, none⟩ = some (.int .i64 (on1 : Int)) := ⟨qX.at rfl, qO.at rfl⟩
        clear hA4 hr1 hr2 hg1 hg2 hnums
        refine wp_region_held_drew (S := (fun w' => w'.cell? ⟨w1.heap.size, 1, none⟩ = some (.slice (some ⟨tb, toff, none⟩) 4 y1) ∧ w'.cell? ⟨w2.heap.size, 1, none⟩ = some (.int .i64 (on1 : Int)))) (by kernel_rfl) (by rw [hV4]; exact s9) (fun hHeld => ?_)
        rw [hV4]
        clear hV4
        refine wpAnyH_take (i := 0) (v := ?vk10) (List.getElem?_toArray.trans rfl) (by kernel_rfl) (by kernel_rfl) (by kernel_rfl) (fun _ _ _ h => h) (Or.inl ⟨by rfl, ?yk10⟩) (by assumption) ?rk10
        case yk10 => (intro w hSw; (try dsimp only at hSw); go_simp; try with_reducible rfl)
        try simp only [Act.put, List.setIfInBounds_toArray, List.set_cons_zero, List.set_cons_succ]
        refine wpAnyH_take (i := 1) (v := ?vk11) (List.getElem?_toArray.trans rfl) (by kernel_rfl) (by kernel_rfl) (by kernel_rfl) (fun _ _ _ h => h) (Or.inl ⟨by rfl, ?yk11⟩) (by assumption) ?rk11
        case yk11 => (intro w hSw; (try dsimp only at hSw); go_simp; try with_reducible rfl)
        try simp only [Act.put, List.setIfInBounds_toArray, List.set_cons_zero, List.set_cons_succ]
        refine wpAnyH_take (i := 2) (v := ?vk12) (List.getElem?_toArray.trans rfl) (by kernel_rfl) (by kernel_rfl) (by kernel_rfl) (fun _ _ _ h => h) (Or.inl ⟨by rfl, ?yk12⟩) (by assumption) ?rk12
        case yk12 => (intro w hSw; (try dsimp only at hSw); go_simp; try with_reducible rfl)
        try simp only [Act.put, List.setIfInBounds_toArray, List.set_cons_zero, List.set_cons_succ]
        refine wpAnyH_take (i := 3) (v := ?vk13) (List.getElem?_toArray.trans rfl) (by kernel_rfl) (by kernel_rfl) (by kernel_rfl) (fun _ _ _ h => h) (Or.inl ⟨by rfl, ?yk13⟩) (by assumption) ?rk13
        case yk13 => (intro w hSw; (try dsimp only at hSw); go_simp; try with_reducible rfl)
        try simp only [Act.put, List.setIfInBounds_toArray, List.set_cons_zero, List.set_cons_succ]
        refine wpAnyH_take (i := 4) (v := ?vk14) (List.getElem?_toArray.trans rfl) (by kernel_rfl) (by kernel_rfl) (by kernel_rfl) (fun _ _ _ h => h) (Or.inl ⟨by rfl, ?yk14⟩) (by assumption) ?rk14
        case yk14 => (intro w hSw; (try dsimp only at hSw); go_simp; try with_reducible rfl)
        try simp only [Act.put, List.setIfInBounds_toArray, List.set_cons_zero, List.set_cons_succ]
        refine wpAnyH_ready (rs := [5]) (by kernel_rfl) (by simp) ?_
        refine AllReadyH.cons (List.getElem?_toArray.trans rfl) (fun K hK => ?_) AllReadyH.nil
        go_simp
        go_at_call 67
        refine (hmin _).mono ?_
        rintro e u5 ⟨rfl, hb⟩
        have qX := qX.below hb
        have qB := qB.below hb
        have qO := qO.below hb
        have qR := qR.below hb
        have o2 := Owns.below o2 hb
        have o3 := Owns.below o3 hb
        have tput0 := hb
        have tc := (Mem.cell_of_heap (hb.block tb (Mem.cell_lt tc))).trans tc
        have tf := (Mem.frozen_of_heap (hb.block tb hbt)).trans tf
        have o1 := Owns.below o1 hb
        have hB4 := hB4.trans (hb.mono hB4.size)
        have hz4 := Nat.le_trans hz4 hb.size
        have hbt := Nat.lt_of_lt_of_le hbt hb.size
        have s9 : u5.cell? ⟨w1.heap.size, 1, none⟩ = some (.slice (some ⟨tb, toff, none⟩) 4 y1) ∧ u5.cell? ⟨w2.heap.size, 1, none⟩ = some (.int .i64 (on1 : Int)) := ⟨qX.at rfl, qO.at rfl⟩
        clear hb tput0
        refine hK.out _ _ s9 (fun hHeld => ?_)
        clear hK K
        try simp only [Act.put, List.setIfInBounds_toArray, List.set_cons_zero, List.set_cons_succ]
        refine wpAnyH_ready (rs := [6]) (by kernel_rfl) (by simp) ?_
        refine AllReadyH.cons (List.getElem?_toArray.trans rfl) (fun K hK => ?_) AllReadyH.nil
        go_simp
        go_at_call 66
        refine (hmax _).mono ?_
        rintro e u6 ⟨rfl, hb⟩
        have qX := qX.below hb
        have qB := qB.below hb
        have qO := qO.below hb
        have qR := qR.below hb
        have o2 := Owns.below o2 hb
        have o3 := Owns.below o3 hb
        have tput0 := hb
        have tc := (Mem.cell_of_heap (hb.block tb (Mem.cell_lt tc))).trans tc
        have tf := (Mem.frozen_of_heap (hb.block tb hbt)).trans tf
        have o1 := Owns.below o1 hb
        have hB4 := hB4.trans (hb.mono hB4.size)
        have hz4 := Nat.le_trans hz4 hb.size
        have hbt := Nat.lt_of_lt_of_le hbt hb.size
        have s9 : u6.cell? ⟨w1.heap.size, 1, none⟩ = some (.slice (some ⟨tb, toff, none⟩) 4 y1) ∧ u6.cell? ⟨w2.heap.size, 1, none⟩ = some (.int .i64 (on1 : Int)) := ⟨qX.at rfl, qO.at rfl⟩
        clear hb tput0
        refine hK.out _ _ s9 (fun hHeld => ?_)
        clear hK K
        try simp only [Act.put, List.setIfInBounds_toArray, List.set_cons_zero, List.set_cons_succ]
        refine wpAnyH_take (i := 7) (v := ?vk17) (List.getElem?_toArray.trans rfl) (by kernel_rfl) (by kernel_rfl) (by kernel_rfl) (fun _ _ _ h => h) (Or.inl ⟨by rfl, ?yk17⟩) (by assumption) ?rk17
        case yk17 => (intro w hSw; (try dsimp only at hSw); go_simp; try with_reducible rfl)
        try simp only [Act.put, List.setIfInBounds_toArray, List.set_cons_zero, List.set_cons_succ]
        refine wpAnyH_ready (rs := [8]) (by kernel_rfl) (by simp) ?_
        refine AllReadyH.cons (List.getElem?_toArray.trans rfl) (fun K hK => ?_) AllReadyH.nil
        have z0 := tc
        have tput := owns_put_at o1 HL1.out (j := on1) ha4 tv (wf_in htin.1 htin.2)
        have qX5 := qX.other (a := ⟨tb, toff + on1, none⟩) (.int .i64 tv) (by dsimp only; omega)
        have qB5 := qB.other (a := ⟨tb, toff + on1, none⟩) (.int .i64 tv) (by dsimp only; omega)
        have qO5 := qO.other (a := ⟨tb, toff + on1, none⟩) (.int .i64 tv) (by dsimp only; omega)
        have qR5 := qR.other (a := ⟨tb, toff + on1, none⟩) (.int .i64 tv) (by dsimp only; omega)
        have hB5 := hB4.setCell (p := ⟨tb, toff + on1, none⟩) (by dsimp only; omega) (.int .i64 tv)
        have o25 := Owns.keep o2 (w' := u6.setCell ⟨tb, toff + on1, none⟩ (.int .i64 tv)) (fun t _ hS => heap_setCell_other _ _ t _ (fun e => d12 t (show S1 t by have e2 : t = tb := e; rw [e2]; exact hSt) hS))
        have o35 := Owns.keep o3 (w' := u6.setCell ⟨tb, toff + on1, none⟩ (.int .i64 tv)) (fun t _ hS => heap_setCell_other _ _ t _ (fun e => d13 t (show S1 t by have e2 : t = tb := e; rw [e2]; exact hSt) hS))
        go_simp
        obtain ⟨V5, hV5⟩ : ∃ V5, u6.setCell ⟨tb, toff + on1, none⟩ (.int .i64 tv) = V5 := ⟨_, rfl⟩
        have hs5 : V5.heap.size = u6.heap.size := by rw [← hV5, gsize_set]
        rw [hV5] at qX5 qB5 qO5 qR5 hB5 o25 o35 tput ⊢
        have s9 : V5.cell? ⟨w1.heap.size, 1, none⟩ = some (.slice (some ⟨tb, toff, none⟩) 4 y1) ∧ V5.cell? ⟨w2.heap.size, 1, none⟩ = some (.int .i64 (on1 : Int)) := ⟨qX5.at rfl, qO5.at rfl⟩
        refine hK.out _ _ s9 (fun hHeld => ?_)
        clear hK K
        try simp only [Act.put, List.setIfInBounds_toArray, List.set_cons_zero, List.set_cons_succ]
        refine wpAnyH_done (by kernel_rfl) ?_ _
        have hR5 : R = ⟨P.f0 + 1, P.f1.set on1 tv, P.f2, P.f3⟩ := by
          rw [HRS.out]
          simp only [stepped, HKS.out, HON1.out, Int.toNat_natCast]
          simp [HTV.out]
        have HR5 := Lib.hid hR5
        clear hR5
        have hz5 : w2.heap.size + 1 ≤ V5.heap.size := by omega
        have hR6 := Lib.hid (show R = ⟨(j : Int) + 1, P.f1.set on1 tv, P.f2, P.f3⟩ by rw [HR5.out, HJ.out])
        go_wp2_with fail
        go_meet
        case rel => exact ⟨rfl, _, _, _, _, _, rfl, hR6.out, (by rw [List.length_set]; exact HL1.out), HL2.out, HL3.out, qX5, qR5, tput, o25, o35, hB5, hz5⟩
      · obtain ⟨tv, htv⟩ : ∃ t, taken v = t := ⟨_, rfl⟩
        have htin : 0 ≤ tv ∧ tv ≤ 999 := by rw [← htv]; exact taken_in v
        obtain ⟨mv, hmv⟩ : ∃ m : Int, (if 999 < v then 999 else v) = m := ⟨_, rfl⟩
        have hmin := fun W => MinMax.min_spec 999 v mv W (by rw [← hmv]; by_cases h9 : 999 < v <;> simp [h9] <;> omega)
        have hmax := fun W => MinMax.max_spec 0 mv tv W (by rw [← htv, ← hmv]; unfold taken; by_cases h0 : v < 0 <;> by_cases h9 : 999 < v <;> simp [h0, h9] <;> omega)
        have HTV := Lib.hid htv
        clear htv hmv
        obtain ⟨tb, toff, hk, hSt, tc, tf, tput⟩ := owns_put o1 HL1.out (j := on1) (by omega)
        subst hk
        have tput := tput tv (wf_in (by omega) (by omega))
        have tub := u1 tb hSt
        go_upto_region 7 with fail
        obtain ⟨V4, hV4⟩ : ∃ V4, V3.drew = V4 := ⟨_, rfl⟩
        have hA4 : Below V3.heap.size V3 V4 := by rw [← hV4]; exact gbelow_drewN (Below.refl _ _) 1
        have tput : Owns (V4.setCell ⟨tb, toff + on1, none⟩ (.int .i64 tv)) (ints (P.f1.set on1 tv)) (.slice (some ⟨tb, toff, none⟩) 4 y1) S1 := by rw [← hV4]; exact tput.keep (fun _ _ _ => rfl)
        have qX := qX.below hA4
        have qB := qB.below hA4
        have qO := qO.below hA4
        have qR := qR.below hA4
        have hbt : tb < V4.heap.size := Nat.lt_of_lt_of_le (by have := Mem.cell_lt tc; exact this) hA4.size
        have o1 := Owns.below o1 hA4
        have o2 := Owns.below o2 hA4
        have o3 := Owns.below o3 hA4
        have tc := (Mem.cell_of_heap (hA4.block tb (Mem.cell_lt tc))).trans tc
        have tf : V4.frozen? ⟨tb, toff + on1, none⟩ = false := by rw [← hV4]; exact tf
        have hB4 := hB4.trans (hA4.mono hB4.size)
        have hz4 := Nat.le_trans hz4 hA4.size
        have s9 : V4.cell? ⟨w1.heap.size, 1, none⟩ = some (.slice (some ⟨tb, toff, none⟩) 4 y1) ∧ V4.cell? ⟨w2.heap.size, 1, none⟩ = some (.int .i64 (on1 : Int)) := ⟨qX.at rfl, qO.at rfl⟩
        clear hA4 hr1 hr2 hg1 hg2 hnums
        refine wp_region_held_drew (S := (fun w' => w'.cell? ⟨w1.heap.size, 1, none⟩ = some (.slice (some ⟨tb, toff, none⟩) 4 y1) ∧ w'.cell? ⟨w2.heap.size, 1, none⟩ = some (.int .i64 (on1 : Int)))) (by kernel_rfl) (by rw [hV4]; exact s9) (fun hHeld => ?_)
        rw [hV4]
        clear hV4
        refine wpAnyH_take (i := 0) (v := ?vk20) (List.getElem?_toArray.trans rfl) (by kernel_rfl) (by kernel_rfl) (by kernel_rfl) (fun _ _ _ h => h) (Or.inl ⟨by rfl, ?yk20⟩) (by assumption) ?rk20
        case yk20 => (intro w hSw; (try dsimp only at hSw); go_simp; try with_reducible rfl)
        try simp only [Act.put, List.setIfInBounds_toArray, List.set_cons_zero, List.set_cons_succ]
        refine wpAnyH_take (i := 1) (v := ?vk21) (List.getElem?_toArray.trans rfl) (by kernel_rfl) (by kernel_rfl) (by kernel_rfl) (fun _ _ _ h => h) (Or.inl ⟨by rfl, ?yk21⟩) (by assumption) ?rk21
        case yk21 => (intro w hSw; (try dsimp only at hSw); go_simp; try with_reducible rfl)
        try simp only [Act.put, List.setIfInBounds_toArray, List.set_cons_zero, List.set_cons_succ]
        refine wpAnyH_take (i := 2) (v := ?vk22) (List.getElem?_toArray.trans rfl) (by kernel_rfl) (by kernel_rfl) (by kernel_rfl) (fun _ _ _ h => h) (Or.inl ⟨by rfl, ?yk22⟩) (by assumption) ?rk22
        case yk22 => (intro w hSw; (try dsimp only at hSw); go_simp; try with_reducible rfl)
        try simp only [Act.put, List.setIfInBounds_toArray, List.set_cons_zero, List.set_cons_succ]
        refine wpAnyH_take (i := 3) (v := ?vk23) (List.getElem?_toArray.trans rfl) (by kernel_rfl) (by kernel_rfl) (by kernel_rfl) (fun _ _ _ h => h) (Or.inl ⟨by rfl, ?yk23⟩) (by assumption) ?rk23
        case yk23 => (intro w hSw; (try dsimp only at hSw); go_simp; try with_reducible rfl)
        try simp only [Act.put, List.setIfInBounds_toArray, List.set_cons_zero, List.set_cons_succ]
        refine wpAnyH_take (i := 4) (v := ?vk24) (List.getElem?_toArray.trans rfl) (by kernel_rfl) (by kernel_rfl) (by kernel_rfl) (fun _ _ _ h => h) (Or.inl ⟨by rfl, ?yk24⟩) (by assumption) ?rk24
        case yk24 => (intro w hSw; (try dsimp only at hSw); go_simp; try with_reducible rfl)
        try simp only [Act.put, List.setIfInBounds_toArray, List.set_cons_zero, List.set_cons_succ]
        refine wpAnyH_ready (rs := [5]) (by kernel_rfl) (by simp) ?_
        refine AllReadyH.cons (List.getElem?_toArray.trans rfl) (fun K hK => ?_) AllReadyH.nil
        go_simp
        go_at_call 67
        refine (hmin _).mono ?_
        rintro e u5 ⟨rfl, hb⟩
        have qX := qX.below hb
        have qB := qB.below hb
        have qO := qO.below hb
        have qR := qR.below hb
        have o2 := Owns.below o2 hb
        have o3 := Owns.below o3 hb
        have tput0 := hb
        have tc := (Mem.cell_of_heap (hb.block tb (Mem.cell_lt tc))).trans tc
        have tf := (Mem.frozen_of_heap (hb.block tb hbt)).trans tf
        have o1 := Owns.below o1 hb
        have hB4 := hB4.trans (hb.mono hB4.size)
        have hz4 := Nat.le_trans hz4 hb.size
        have hbt := Nat.lt_of_lt_of_le hbt hb.size
        have s9 : u5.cell? ⟨w1.heap.size, 1, none⟩ = some (.slice (some ⟨tb, toff, none⟩) 4 y1) ∧ u5.cell? ⟨w2.heap.size, 1, none⟩ = some (.int .i64 (on1 : Int)) := ⟨qX.at rfl, qO.at rfl⟩
        clear hb tput0
        refine hK.out _ _ s9 (fun hHeld => ?_)
        clear hK K
        try simp only [Act.put, List.setIfInBounds_toArray, List.set_cons_zero, List.set_cons_succ]
        refine wpAnyH_ready (rs := [6]) (by kernel_rfl) (by simp) ?_
        refine AllReadyH.cons (List.getElem?_toArray.trans rfl) (fun K hK => ?_) AllReadyH.nil
        go_simp
        go_at_call 66
        refine (hmax _).mono ?_
        rintro e u6 ⟨rfl, hb⟩
        have qX := qX.below hb
        have qB := qB.below hb
        have qO := qO.below hb
        have qR := qR.below hb
        have o2 := Owns.below o2 hb
        have o3 := Owns.below o3 hb
        have tput0 := hb
        have tc := (Mem.cell_of_heap (hb.block tb (Mem.cell_lt tc))).trans tc
        have tf := (Mem.frozen_of_heap (hb.block tb hbt)).trans tf
        have o1 := Owns.below o1 hb
        have hB4 := hB4.trans (hb.mono hB4.size)
        have hz4 := Nat.le_trans hz4 hb.size
        have hbt := Nat.lt_of_lt_of_le hbt hb.size
        have s9 : u6.cell? ⟨w1.heap.size, 1, none⟩ = some (.slice (some ⟨tb, toff, none⟩) 4 y1) ∧ u6.cell? ⟨w2.heap.size, 1, none⟩ = some (.int .i64 (on1 : Int)) := ⟨qX.at rfl, qO.at rfl⟩
        clear hb tput0
        refine hK.out _ _ s9 (fun hHeld => ?_)
        clear hK K
        try simp only [Act.put, List.setIfInBounds_toArray, List.set_cons_zero, List.set_cons_succ]
        refine wpAnyH_take (i := 7) (v := ?vk27) (List.getElem?_toArray.trans rfl) (by kernel_rfl) (by kernel_rfl) (by kernel_rfl) (fun _ _ _ h => h) (Or.inl ⟨by rfl, ?yk27⟩) (by assumption) ?rk27
        case yk27 => (intro w hSw; (try dsimp only at hSw); go_simp; try with_reducible rfl)
        try simp only [Act.put, List.setIfInBounds_toArray, List.set_cons_zero, List.set_cons_succ]
        refine wpAnyH_ready (rs := [8]) (by kernel_rfl) (by simp) ?_
        refine AllReadyH.cons (List.getElem?_toArray.trans rfl) (fun K hK => ?_) AllReadyH.nil
        have z0 := tc
        have tput := owns_put_at o1 HL1.out (j := on1) ha4 tv (wf_in htin.1 htin.2)
        have qX5 := qX.other (a := ⟨tb, toff + on1, none⟩) (.int .i64 tv) (by dsimp only; omega)
        have qB5 := qB.other (a := ⟨tb, toff + on1, none⟩) (.int .i64 tv) (by dsimp only; omega)
        have qO5 := qO.other (a := ⟨tb, toff + on1, none⟩) (.int .i64 tv) (by dsimp only; omega)
        have qR5 := qR.other (a := ⟨tb, toff + on1, none⟩) (.int .i64 tv) (by dsimp only; omega)
        have hB5 := hB4.setCell (p := ⟨tb, toff + on1, none⟩) (by dsimp only; omega) (.int .i64 tv)
        have o25 := Owns.keep o2 (w' := u6.setCell ⟨tb, toff + on1, none⟩ (.int .i64 tv)) (fun t _ hS => heap_setCell_other _ _ t _ (fun e => d12 t (show S1 t by have e2 : t = tb := e; rw [e2]; exact hSt) hS))
        have o35 := Owns.keep o3 (w' := u6.setCell ⟨tb, toff + on1, none⟩ (.int .i64 tv)) (fun t _ hS => heap_setCell_other _ _ t _ (fun e => d13 t (show S1 t by have e2 : t = tb := e; rw [e2]; exact hSt) hS))
        go_simp
        obtain ⟨V5, hV5⟩ : ∃ V5, u6.setCell ⟨tb, toff + on1, none⟩ (.int .i64 tv) = V5 := ⟨_, rfl⟩
        have hs5 : V5.heap.size = u6.heap.size := by rw [← hV5, gsize_set]
        rw [hV5] at qX5 qB5 qO5 qR5 hB5 o25 o35 tput ⊢
        have s9 : V5.cell? ⟨w1.heap.size, 1, none⟩ = some (.slice (some ⟨tb, toff, none⟩) 4 y1) ∧ V5.cell? ⟨w2.heap.size, 1, none⟩ = some (.int .i64 (on1 : Int)) := ⟨qX5.at rfl, qO5.at rfl⟩
        refine hK.out _ _ s9 (fun hHeld => ?_)
        clear hK K
        try simp only [Act.put, List.setIfInBounds_toArray, List.set_cons_zero, List.set_cons_succ]
        refine wpAnyH_done (by kernel_rfl) ?_ _
        have hR5 : R = ⟨P.f0 + 1, P.f1.set on1 tv, P.f2, P.f3⟩ := by
          rw [HRS.out]
          simp only [stepped, HKS.out, HON1.out, Int.toNat_natCast]
          simp [HTV.out]
        have HR5 := Lib.hid hR5
        clear hR5
        have hz5 : w2.heap.size + 1 ≤ V5.heap.size := by omega
        have hR6 := Lib.hid (show R = ⟨(j : Int) + 1, P.f1.set on1 tv, P.f2, P.f3⟩ by rw [HR5.out, HJ.out])
        go_wp2_with fail
        go_meet
        case rel => exact ⟨rfl, _, _, _, _, _, rfl, hR6.out, (by rw [List.length_set]; exact HL1.out), HL2.out, HL3.out, qX5, qR5, tput, o25, o35, hB5, hz5⟩
      · obtain ⟨tv, htv⟩ : ∃ t, taken v = t := ⟨_, rfl⟩
        have htin : 0 ≤ tv ∧ tv ≤ 999 := by rw [← htv]; exact taken_in v
        obtain ⟨mv, hmv⟩ : ∃ m : Int, (if 999 < v then 999 else v) = m := ⟨_, rfl⟩
        have hmin := fun W => MinMax.min_spec 999 v mv W (by rw [← hmv]; by_cases h9 : 999 < v <;> simp [h9] <;> omega)
        have hmax := fun W => MinMax.max_spec 0 mv tv W (by rw [← htv, ← hmv]; unfold taken; by_cases h0 : v < 0 <;> by_cases h9 : 999 < v <;> simp [h0, h9] <;> omega)
        have HTV := Lib.hid htv
        clear htv hmv
        obtain ⟨tb, toff, hk, hSt, tc, tf, tput⟩ := owns_put o1 HL1.out (j := on1) (by omega)
        subst hk
        have tput := tput tv (wf_in (by omega) (by omega))
        have tub := u1 tb hSt
        go_upto_region 7 with fail
        obtain ⟨V4, hV4⟩ : ∃ V4, V3.drew = V4 := ⟨_, rfl⟩
        have hA4 : Below V3.heap.size V3 V4 := by rw [← hV4]; exact gbelow_drewN (Below.refl _ _) 1
        have tput : Owns (V4.setCell ⟨tb, toff + on1, none⟩ (.int .i64 tv)) (ints (P.f1.set on1 tv)) (.slice (some ⟨tb, toff, none⟩) 4 y1) S1 := by rw [← hV4]; exact tput.keep (fun _ _ _ => rfl)
        have qX := qX.below hA4
        have qB := qB.below hA4
        have qO := qO.below hA4
        have qR := qR.below hA4
        have hbt : tb < V4.heap.size := Nat.lt_of_lt_of_le (by have := Mem.cell_lt tc; exact this) hA4.size
        have o1 := Owns.below o1 hA4
        have o2 := Owns.below o2 hA4
        have o3 := Owns.below o3 hA4
        have tc := (Mem.cell_of_heap (hA4.block tb (Mem.cell_lt tc))).trans tc
        have tf : V4.frozen? ⟨tb, toff + on1, none⟩ = false := by rw [← hV4]; exact tf
        have hB4 := hB4.trans (hA4.mono hB4.size)
        have hz4 := Nat.le_trans hz4 hA4.size
        have s9 : V4.cell? ⟨w1.heap.size, 1, none⟩ = some (.slice (some ⟨tb, toff, none⟩) 4 y1) ∧ V4.cell? ⟨w2.heap.size, 1, none⟩ = some (.int .i64 (on1 : Int)) := ⟨qX.at rfl, qO.at rfl⟩
        clear hA4 hr1 hr2 hg1 hg2 hnums
        refine wp_region_held_drew (S := (fun w' => w'.cell? ⟨w1.heap.size, 1, none⟩ = some (.slice (some ⟨tb, toff, none⟩) 4 y1) ∧ w'.cell? ⟨w2.heap.size, 1, none⟩ = some (.int .i64 (on1 : Int)))) (by kernel_rfl) (by rw [hV4]; exact s9) (fun hHeld => ?_)
        rw [hV4]
        clear hV4
        refine wpAnyH_take (i := 0) (v := ?vk30) (List.getElem?_toArray.trans rfl) (by kernel_rfl) (by kernel_rfl) (by kernel_rfl) (fun _ _ _ h => h) (Or.inl ⟨by rfl, ?yk30⟩) (by assumption) ?rk30
        case yk30 => (intro w hSw; (try dsimp only at hSw); go_simp; try with_reducible rfl)
        try simp only [Act.put, List.setIfInBounds_toArray, List.set_cons_zero, List.set_cons_succ]
        refine wpAnyH_take (i := 1) (v := ?vk31) (List.getElem?_toArray.trans rfl) (by kernel_rfl) (by kernel_rfl) (by kernel_rfl) (fun _ _ _ h => h) (Or.inl ⟨by rfl, ?yk31⟩) (by assumption) ?rk31
        case yk31 => (intro w hSw; (try dsimp only at hSw); go_simp; try with_reducible rfl)
        try simp only [Act.put, List.setIfInBounds_toArray, List.set_cons_zero, List.set_cons_succ]
        refine wpAnyH_take (i := 2) (v := ?vk32) (List.getElem?_toArray.trans rfl) (by kernel_rfl) (by kernel_rfl) (by kernel_rfl) (fun _ _ _ h => h) (Or.inl ⟨by rfl, ?yk32⟩) (by assumption) ?rk32
        case yk32 => (intro w hSw; (try dsimp only at hSw); go_simp; try with_reducible rfl)
        try simp only [Act.put, List.setIfInBounds_toArray, List.set_cons_zero, List.set_cons_succ]
        refine wpAnyH_take (i := 3) (v := ?vk33) (List.getElem?_toArray.trans rfl) (by kernel_rfl) (by kernel_rfl) (by kernel_rfl) (fun _ _ _ h => h) (Or.inl ⟨by rfl, ?yk33⟩) (by assumption) ?rk33
        case yk33 => (intro w hSw; (try dsimp only at hSw); go_simp; try with_reducible rfl)
        try simp only [Act.put, List.setIfInBounds_toArray, List.set_cons_zero, List.set_cons_succ]
        refine wpAnyH_take (i := 4) (v := ?vk34) (List.getElem?_toArray.trans rfl) (by kernel_rfl) (by kernel_rfl) (by kernel_rfl) (fun _ _ _ h => h) (Or.inl ⟨by rfl, ?yk34⟩) (by assumption) ?rk34
        case yk34 => (intro w hSw; (try dsimp only at hSw); go_simp; try with_reducible rfl)
        try simp only [Act.put, List.setIfInBounds_toArray, List.set_cons_zero, List.set_cons_succ]
        refine wpAnyH_ready (rs := [5]) (by kernel_rfl) (by simp) ?_
        refine AllReadyH.cons (List.getElem?_toArray.trans rfl) (fun K hK => ?_) AllReadyH.nil
        go_simp
        go_at_call 67
        refine (hmin _).mono ?_
        rintro e u5 ⟨rfl, hb⟩
        have qX := qX.below hb
        have qB := qB.below hb
        have qO := qO.below hb
        have qR := qR.below hb
        have o2 := Owns.below o2 hb
        have o3 := Owns.below o3 hb
        have tput0 := hb
        have tc := (Mem.cell_of_heap (hb.block tb (Mem.cell_lt tc))).trans tc
        have tf := (Mem.frozen_of_heap (hb.block tb hbt)).trans tf
        have o1 := Owns.below o1 hb
        have hB4 := hB4.trans (hb.mono hB4.size)
        have hz4 := Nat.le_trans hz4 hb.size
        have hbt := Nat.lt_of_lt_of_le hbt hb.size
        have s9 : u5.cell? ⟨w1.heap.size, 1, none⟩ = some (.slice (some ⟨tb, toff, none⟩) 4 y1) ∧ u5.cell? ⟨w2.heap.size, 1, none⟩ = some (.int .i64 (on1 : Int)) := ⟨qX.at rfl, qO.at rfl⟩
        clear hb tput0
        refine hK.out _ _ s9 (fun hHeld => ?_)
        clear hK K
        try simp only [Act.put, List.setIfInBounds_toArray, List.set_cons_zero, List.set_cons_succ]
        refine wpAnyH_ready (rs := [6]) (by kernel_rfl) (by simp) ?_
        refine AllReadyH.cons (List.getElem?_toArray.trans rfl) (fun K hK => ?_) AllReadyH.nil
        go_simp
        go_at_call 66
        refine (hmax _).mono ?_
        rintro e u6 ⟨rfl, hb⟩
        have qX := qX.below hb
        have qB := qB.below hb
        have qO := qO.below hb
        have qR := qR.below hb
        have o2 := Owns.below o2 hb
        have o3 := Owns.below o3 hb
        have tput0 := hb
        have tc := (Mem.cell_of_heap (hb.block tb (Mem.cell_lt tc))).trans tc
        have tf := (Mem.frozen_of_heap (hb.block tb hbt)).trans tf
        have o1 := Owns.below o1 hb
        have hB4 := hB4.trans (hb.mono hB4.size)
        have hz4 := Nat.le_trans hz4 hb.size
        have hbt := Nat.lt_of_lt_of_le hbt hb.size
        have s9 : u6.cell? ⟨w1.heap.size, 1, none⟩ = some (.slice (some ⟨tb, toff, none⟩) 4 y1) ∧ u6.cell? ⟨w2.heap.size, 1, none⟩ = some (.int .i64 (on1 : Int)) := ⟨qX.at rfl, qO.at rfl⟩
        clear hb tput0
        refine hK.out _ _ s9 (fun hHeld => ?_)
        clear hK K
        try simp only [Act.put, List.setIfInBounds_toArray, List.set_cons_zero, List.set_cons_succ]
        refine wpAnyH_take (i := 7) (v := ?vk37) (List.getElem?_toArray.trans rfl) (by kernel_rfl) (by kernel_rfl) (by kernel_rfl) (fun _ _ _ h => h) (Or.inl ⟨by rfl, ?yk37⟩) (by assumption) ?rk37
        case yk37 => (intro w hSw; (try dsimp only at hSw); go_simp; try with_reducible rfl)
        try simp only [Act.put, List.setIfInBounds_toArray, List.set_cons_zero, List.set_cons_succ]
        refine wpAnyH_ready (rs := [8]) (by kernel_rfl) (by simp) ?_
        refine AllReadyH.cons (List.getElem?_toArray.trans rfl) (fun K hK => ?_) AllReadyH.nil
        have z0 := tc
        have tput := owns_put_at o1 HL1.out (j := on1) ha4 tv (wf_in htin.1 htin.2)
        have qX5 := qX.other (a := ⟨tb, toff + on1, none⟩) (.int .i64 tv) (by dsimp only; omega)
        have qB5 := qB.other (a := ⟨tb, toff + on1, none⟩) (.int .i64 tv) (by dsimp only; omega)
        have qO5 := qO.other (a := ⟨tb, toff + on1, none⟩) (.int .i64 tv) (by dsimp only; omega)
        have qR5 := qR.other (a := ⟨tb, toff + on1, none⟩) (.int .i64 tv) (by dsimp only; omega)
        have hB5 := hB4.setCell (p := ⟨tb, toff + on1, none⟩) (by dsimp only; omega) (.int .i64 tv)
        have o25 := Owns.keep o2 (w' := u6.setCell ⟨tb, toff + on1, none⟩ (.int .i64 tv)) (fun t _ hS => heap_setCell_other _ _ t _ (fun e => d12 t (show S1 t by have e2 : t = tb := e; rw [e2]; exact hSt) hS))
        have o35 := Owns.keep o3 (w' := u6.setCell ⟨tb, toff + on1, none⟩ (.int .i64 tv)) (fun t _ hS => heap_setCell_other _ _ t _ (fun e => d13 t (show S1 t by have e2 : t = tb := e; rw [e2]; exact hSt) hS))
        go_simp
        obtain ⟨V5, hV5⟩ : ∃ V5, u6.setCell ⟨tb, toff + on1, none⟩ (.int .i64 tv) = V5 := ⟨_, rfl⟩
        have hs5 : V5.heap.size = u6.heap.size := by rw [← hV5, gsize_set]
        rw [hV5] at qX5 qB5 qO5 qR5 hB5 o25 o35 tput ⊢
        have s9 : V5.cell? ⟨w1.heap.size, 1, none⟩ = some (.slice (some ⟨tb, toff, none⟩) 4 y1) ∧ V5.cell? ⟨w2.heap.size, 1, none⟩ = some (.int .i64 (on1 : Int)) := ⟨qX5.at rfl, qO5.at rfl⟩
        refine hK.out _ _ s9 (fun hHeld => ?_)
        clear hK K
        try simp only [Act.put, List.setIfInBounds_toArray, List.set_cons_zero, List.set_cons_succ]
        refine wpAnyH_done (by kernel_rfl) ?_ _
        have hR5 : R = ⟨P.f0 + 1, P.f1.set on1 tv, P.f2, P.f3⟩ := by
          rw [HRS.out]
          simp only [stepped, HKS.out, HON1.out, Int.toNat_natCast]
          simp [HTV.out]
        have HR5 := Lib.hid hR5
        clear hR5
        have hz5 : w2.heap.size + 1 ≤ V5.heap.size := by omega
        have hR6 := Lib.hid (show R = ⟨(j : Int) + 1, P.f1.set on1 tv, P.f2, P.f3⟩ by rw [HR5.out, HJ.out])
        go_wp2_with fail
        go_meet
        case rel => exact ⟨rfl, _, _, _, _, _, rfl, hR6.out, (by rw [List.length_set]; exact HL1.out), HL2.out, HL3.out, qX5, qR5, tput, o25, o35, hB5, hz5⟩
      · obtain ⟨tv, htv⟩ : ∃ t, taken v = t := ⟨_, rfl⟩
        have htin : 0 ≤ tv ∧ tv ≤ 999 := by rw [← htv]; exact taken_in v
        obtain ⟨mv, hmv⟩ : ∃ m : Int, (if 999 < v then 999 else v) = m := ⟨_, rfl⟩
        have hmin := fun W => MinMax.min_spec 999 v mv W (by rw [← hmv]; by_cases h9 : 999 < v <;> simp [h9] <;> omega)
        have hmax := fun W => MinMax.max_spec 0 mv tv W (by rw [← htv, ← hmv]; unfold taken; by_cases h0 : v < 0 <;> by_cases h9 : 999 < v <;> simp [h0, h9] <;> omega)
        have HTV := Lib.hid htv
        clear htv hmv
        obtain ⟨tb, toff, hk, hSt, tc, tf, tput⟩ := owns_put o1 HL1.out (j := on1) (by omega)
        subst hk
        have tput := tput tv (wf_in (by omega) (by omega))
        have tub := u1 tb hSt
        go_upto_region 7 with fail
        obtain ⟨V4, hV4⟩ : ∃ V4, V3.drew = V4 := ⟨_, rfl⟩
        have hA4 : Below V3.heap.size V3 V4 := by rw [← hV4]; exact gbelow_drewN (Below.refl _ _) 1
        have tput : Owns (V4.setCell ⟨tb, toff + on1, none⟩ (.int .i64 tv)) (ints (P.f1.set on1 tv)) (.slice (some ⟨tb, toff, none⟩) 4 y1) S1 := by rw [← hV4]; exact tput.keep (fun _ _ _ => rfl)
        have qX := qX.below hA4
        have qB := qB.below hA4
        have qO := qO.below hA4
        have qR := qR.below hA4
        have hbt : tb < V4.heap.size := Nat.lt_of_lt_of_le (by have := Mem.cell_lt tc; exact this) hA4.size
        have o1 := Owns.below o1 hA4
        have o2 := Owns.below o2 hA4
        have o3 := Owns.below o3 hA4
        have tc := (Mem.cell_of_heap (hA4.block tb (Mem.cell_lt tc))).trans tc
        have tf : V4.frozen? ⟨tb, toff + on1, none⟩ = false := by rw [← hV4]; exact tf
        have hB4 := hB4.trans (hA4.mono hB4.size)
        have hz4 := Nat.le_trans hz4 hA4.size
        have s9 : V4.cell? ⟨w1.heap.size, 1, none⟩ = some (.slice (some ⟨tb, toff, none⟩) 4 y1) ∧ V4.cell? ⟨w2.heap.size, 1, none⟩ = some (.int .i64 (on1 : Int)) := ⟨qX.at rfl, qO.at rfl⟩
        clear hA4 hr1 hr2 hg1 hg2 hnums
        refine wp_region_held_drew (S := (fun w' => w'.cell? ⟨w1.heap.size, 1, none⟩ = some (.slice (some ⟨tb, toff, none⟩) 4 y1) ∧ w'.cell? ⟨w2.heap.size, 1, none⟩ = some (.int .i64 (on1 : Int)))) (by kernel_rfl) (by rw [hV4]; exact s9) (fun hHeld => ?_)
        rw [hV4]
        clear hV4
        refine wpAnyH_take (i := 0) (v := ?vk40) (List.getElem?_toArray.trans rfl) (by kernel_rfl) (by kernel_rfl) (by kernel_rfl) (fun _ _ _ h => h) (Or.inl ⟨by rfl, ?yk40⟩) (by assumption) ?rk40
        case yk40 => (intro w hSw; (try dsimp only at hSw); go_simp; try with_reducible rfl)
        try simp only [Act.put, List.setIfInBounds_toArray, List.set_cons_zero, List.set_cons_succ]
        refine wpAnyH_take (i := 1) (v := ?vk41) (List.getElem?_toArray.trans rfl) (by kernel_rfl) (by kernel_rfl) (by kernel_rfl) (fun _ _ _ h => h) (Or.inl ⟨by rfl, ?yk41⟩) (by assumption) ?rk41
        case yk41 => (intro w hSw; (try dsimp only at hSw); go_simp; try with_reducible rfl)
        try simp only [Act.put, List.setIfInBounds_toArray, List.set_cons_zero, List.set_cons_succ]
        refine wpAnyH_take (i := 2) (v := ?vk42) (List.getElem?_toArray.trans rfl) (by kernel_rfl) (by kernel_rfl) (by kernel_rfl) (fun _ _ _ h => h) (Or.inl ⟨by rfl, ?yk42⟩) (by assumption) ?rk42
        case yk42 => (intro w hSw; (try dsimp only at hSw); go_simp; try with_reducible rfl)
        try simp only [Act.put, List.setIfInBounds_toArray, List.set_cons_zero, List.set_cons_succ]
        refine wpAnyH_take (i := 3) (v := ?vk43) (List.getElem?_toArray.trans rfl) (by kernel_rfl) (by kernel_rfl) (by kernel_rfl) (fun _ _ _ h => h) (Or.inl ⟨by rfl, ?yk43⟩) (by assumption) ?rk43
        case yk43 => (intro w hSw; (try dsimp only at hSw); go_simp; try with_reducible rfl)
        try simp only [Act.put, List.setIfInBounds_toArray, List.set_cons_zero, List.set_cons_succ]
        refine wpAnyH_take (i := 4) (v := ?vk44) (List.getElem?_toArray.trans rfl) (by kernel_rfl) (by kernel_rfl) (by kernel_rfl) (fun _ _ _ h => h) (Or.inl ⟨by rfl, ?yk44⟩) (by assumption) ?rk44
        case yk44 => (intro w hSw; (try dsimp only at hSw); go_simp; try with_reducible rfl)
        try simp only [Act.put, List.setIfInBounds_toArray, List.set_cons_zero, List.set_cons_succ]
        refine wpAnyH_ready (rs := [5]) (by kernel_rfl) (by simp) ?_
        refine AllReadyH.cons (List.getElem?_toArray.trans rfl) (fun K hK => ?_) AllReadyH.nil
        go_simp
        go_at_call 67
        refine (hmin _).mono ?_
        rintro e u5 ⟨rfl, hb⟩
        have qX := qX.below hb
        have qB := qB.below hb
        have qO := qO.below hb
        have qR := qR.below hb
        have o2 := Owns.below o2 hb
        have o3 := Owns.below o3 hb
        have tput0 := hb
        have tc := (Mem.cell_of_heap (hb.block tb (Mem.cell_lt tc))).trans tc
        have tf := (Mem.frozen_of_heap (hb.block tb hbt)).trans tf
        have o1 := Owns.below o1 hb
        have hB4 := hB4.trans (hb.mono hB4.size)
        have hz4 := Nat.le_trans hz4 hb.size
        have hbt := Nat.lt_of_lt_of_le hbt hb.size
        have s9 : u5.cell? ⟨w1.heap.size, 1, none⟩ = some (.slice (some ⟨tb, toff, none⟩) 4 y1) ∧ u5.cell? ⟨w2.heap.size, 1, none⟩ = some (.int .i64 (on1 : Int)) := ⟨qX.at rfl, qO.at rfl⟩
        clear hb tput0
        refine hK.out _ _ s9 (fun hHeld => ?_)
        clear hK K
        try simp only [Act.put, List.setIfInBounds_toArray, List.set_cons_zero, List.set_cons_succ]
        refine wpAnyH_ready (rs := [6]) (by kernel_rfl) (by simp) ?_
        refine AllReadyH.cons (List.getElem?_toArray.trans rfl) (fun K hK => ?_) AllReadyH.nil
        go_simp
        go_at_call 66
        refine (hmax _).mono ?_
        rintro e u6 ⟨rfl, hb⟩
        have qX := qX.below hb
        have qB := qB.below hb
        have qO := qO.below hb
        have qR := qR.below hb
        have o2 := Owns.below o2 hb
        have o3 := Owns.below o3 hb
        have tput0 := hb
        have tc := (Mem.cell_of_heap (hb.block tb (Mem.cell_lt tc))).trans tc
        have tf := (Mem.frozen_of_heap (hb.block tb hbt)).trans tf
        have o1 := Owns.below o1 hb
        have hB4 := hB4.trans (hb.mono hB4.size)
        have hz4 := Nat.le_trans hz4 hb.size
        have hbt := Nat.lt_of_lt_of_le hbt hb.size
        have s9 : u6.cell? ⟨w1.heap.size, 1, none⟩ = some (.slice (some ⟨tb, toff, none⟩) 4 y1) ∧ u6.cell? ⟨w2.heap.size, 1, none⟩ = some (.int .i64 (on1 : Int)) := ⟨qX.at rfl, qO.at rfl⟩
        clear hb tput0
        refine hK.out _ _ s9 (fun hHeld => ?_)
        clear hK K
        try simp only [Act.put, List.setIfInBounds_toArray, List.set_cons_zero, List.set_cons_succ]
        refine wpAnyH_take (i := 7) (v := ?vk47) (List.getElem?_toArray.trans rfl) (by kernel_rfl) (by kernel_rfl) (by kernel_rfl) (fun _ _ _ h => h) (Or.inl ⟨by rfl, ?yk47⟩) (by assumption) ?rk47
        case yk47 => (intro w hSw; (try dsimp only at hSw); go_simp; try with_reducible rfl)
        try simp only [Act.put, List.setIfInBounds_toArray, List.set_cons_zero, List.set_cons_succ]
        refine wpAnyH_ready (rs := [8]) (by kernel_rfl) (by simp) ?_
        refine AllReadyH.cons (List.getElem?_toArray.trans rfl) (fun K hK => ?_) AllReadyH.nil
        have z0 := tc
        have tput := owns_put_at o1 HL1.out (j := on1) ha4 tv (wf_in htin.1 htin.2)
        have qX5 := qX.other (a := ⟨tb, toff + on1, none⟩) (.int .i64 tv) (by dsimp only; omega)
        have qB5 := qB.other (a := ⟨tb, toff + on1, none⟩) (.int .i64 tv) (by dsimp only; omega)
        have qO5 := qO.other (a := ⟨tb, toff + on1, none⟩) (.int .i64 tv) (by dsimp only; omega)
        have qR5 := qR.other (a := ⟨tb, toff + on1, none⟩) (.int .i64 tv) (by dsimp only; omega)
        have hB5 := hB4.setCell (p := ⟨tb, toff + on1, none⟩) (by dsimp only; omega) (.int .i64 tv)
        have o25 := Owns.keep o2 (w' := u6.setCell ⟨tb, toff + on1, none⟩ (.int .i64 tv)) (fun t _ hS => heap_setCell_other _ _ t _ (fun e => d12 t (show S1 t by have e2 : t = tb := e; rw [e2]; exact hSt) hS))
        have o35 := Owns.keep o3 (w' := u6.setCell ⟨tb, toff + on1, none⟩ (.int .i64 tv)) (fun t _ hS => heap_setCell_other _ _ t _ (fun e => d13 t (show S1 t by have e2 : t = tb := e; rw [e2]; exact hSt) hS))
        go_simp
        obtain ⟨V5, hV5⟩ : ∃ V5, u6.setCell ⟨tb, toff + on1, none⟩ (.int .i64 tv) = V5 := ⟨_, rfl⟩
        have hs5 : V5.heap.size = u6.heap.size := by rw [← hV5, gsize_set]
        rw [hV5] at qX5 qB5 qO5 qR5 hB5 o25 o35 tput ⊢
        have s9 : V5.cell? ⟨w1.heap.size, 1, none⟩ = some (.slice (some ⟨tb, toff, none⟩) 4 y1) ∧ V5.cell? ⟨w2.heap.size, 1, none⟩ = some (.int .i64 (on1 : Int)) := ⟨qX5.at rfl, qO5.at rfl⟩
        refine hK.out _ _ s9 (fun hHeld => ?_)
        clear hK K
        try simp only [Act.put, List.setIfInBounds_toArray, List.set_cons_zero, List.set_cons_succ]
        refine wpAnyH_done (by kernel_rfl) ?_ _
        have hR5 : R = ⟨P.f0 + 1, P.f1.set on1 tv, P.f2, P.f3⟩ := by
          rw [HRS.out]
          simp only [stepped, HKS.out, HON1.out, Int.toNat_natCast]
          simp [HTV.out]
        have HR5 := Lib.hid hR5
        clear hR5
        have hz5 : w2.heap.size + 1 ≤ V5.heap.size := by omega
        have hR6 := Lib.hid (show R = ⟨(j : Int) + 1, P.f1.set on1 tv, P.f2, P.f3⟩ by rw [HR5.out, HJ.out])
        go_wp2_with fail
        go_meet
        case rel => exact ⟨rfl, _, _, _, _, _, rfl, hR6.out, (by rw [List.length_set]; exact HL1.out), HL2.out, HL3.out, qX5, qR5, tput, o25, o35, hB5, hz5⟩
      · obtain ⟨on2, hon2⟩ : ∃ a : Nat, o.f2 = (a : Int) := ⟨o.f2.toNat, by omega⟩
        have hb2 : on2 < 4 := by omega
        have hbi : (on2 : Int) < 4 := by omega
        have HON2 := Lib.hid hon2
        rw [hon2] at qO
        clear hon2
        obtain ⟨on3, hon3⟩ : ∃ a : Nat, o.f3 = (a : Int) := ⟨o.f3.toNat, by omega⟩
        have hc2 : on3 < 4 := by omega
        have hci : (on3 : Int) < 4 := by omega
        have HON3 := Lib.hid hon3
        rw [hon3] at qO
        clear hon3
        have ry := hr1 on2 (by omega)
        have bdy := hg1 on2 (by omega)
        obtain ⟨y, hy⟩ : ∃ q, P.f1.getD on2 0 = q := ⟨_, rfl⟩
        rw [hy] at ry bdy
        have HY := Lib.hid hy
        clear hy
        have rz := hr1 on3 (by omega)
        have bdz := hg1 on3 (by omega)
        obtain ⟨z, hz⟩ : ∃ q, P.f1.getD on3 0 = q := ⟨_, rfl⟩
        rw [hz] at rz bdz
        have HZ := Lib.hid hz
        clear hz
        obtain ⟨m, hm9⟩ : ∃ m, (y + z) % 1000 = m := ⟨_, rfl⟩
        have htm : (y + z).tmod 1000 = m := by rw [Int.tmod_eq_emod_of_nonneg (by omega)]; exact hm9
        have hm0 : 0 ≤ m ∧ m ≤ 999 := by omega
        have HM := Lib.hid hm9
        have hwr : IntKind.i64.wrap (y + z) = y + z := by rw [IntKind.wrap_i64]; omega
        clear hm9
        obtain ⟨tb, toff, hk, hSt, tc, tf, tput⟩ := owns_put o1 HL1.out (j := on1) (by omega)
        subst hk
        have tput := tput m (wf_in (by omega) (by omega))
        have tub := u1 tb hSt
        go_upto_region 9 with fail
        obtain ⟨V4, hV4⟩ : ∃ V4, V3.drew = V4 := ⟨_, rfl⟩
        have hA4 : Below V3.heap.size V3 V4 := by rw [← hV4]; exact gbelow_drewN (Below.refl _ _) 1
        have tput : Owns (V4.setCell ⟨tb, toff + on1, none⟩ (.int .i64 m)) (ints (P.f1.set on1 m)) (.slice (some ⟨tb, toff, none⟩) 4 y1) S1 := by rw [← hV4]; exact tput.keep (fun _ _ _ => rfl)
        have qX := qX.below hA4
        have qB := qB.below hA4
        have qO := qO.below hA4
        have qR := qR.below hA4
        have o2 := Owns.below o2 hA4
        have o3 := Owns.below o3 hA4
        have tc := (Mem.cell_of_heap (hA4.block tb (Mem.cell_lt tc))).trans tc
        have tf : V4.frozen? ⟨tb, toff + on1, none⟩ = false := by rw [← hV4]; exact tf
        have ry := (Mem.cell_of_heap (hA4.block _ (Mem.cell_lt ry))).trans ry
        have rz := (Mem.cell_of_heap (hA4.block _ (Mem.cell_lt rz))).trans rz
        have hB4 := hB4.trans (hA4.mono hB4.size)
        have hz4 := Nat.le_trans hz4 hA4.size
        have s9 : V4.cell? ⟨w1.heap.size, 1, none⟩ = some (.slice (some ⟨tb, toff, none⟩) 4 y1) ∧ V4.cell? ⟨w2.heap.size, 1, none⟩ = some (.int .i64 (on1 : Int)) ∧ V4.cell? ⟨w2.heap.size, 2, none⟩ = some (.int .i64 (on2 : Int)) ∧ V4.cell? ⟨w2.heap.size, 3, none⟩ = some (.int .i64 (on3 : Int)) ∧ V4.cell? ⟨w.heap.size, 1, none⟩ = some (.slice (some ⟨rb1, ro1, none⟩) 4 c1) ∧ V4.cell? ⟨rb1, ro1 + on2, none⟩ = some (.int .i64 y) ∧ V4.cell? ⟨rb1, ro1 + on3, none⟩ = some (.int .i64 z) := ⟨qX.at rfl, qO.at rfl, qO.at rfl, qO.at rfl, qB.at rfl, ry, rz⟩
        clear hA4 hr1 hr2 hg1 hg2 hnums
        refine wp_region_held_drew (S := (fun w' => w'.cell? ⟨w1.heap.size, 1, none⟩ = some (.slice (some ⟨tb, toff, none⟩) 4 y1) ∧ w'.cell? ⟨w2.heap.size, 1, none⟩ = some (.int .i64 (on1 : Int)) ∧ w'.cell? ⟨w2.heap.size, 2, none⟩ = some (.int .i64 (on2 : Int)) ∧ w'.cell? ⟨w2.heap.size, 3, none⟩ = some (.int .i64 (on3 : Int)) ∧ w'.cell? ⟨w.heap.size, 1, none⟩ = some (.slice (some ⟨rb1, ro1, none⟩) 4 c1) ∧ w'.cell? ⟨rb1, ro1 + on2, none⟩ = some (.int .i64 y) ∧ w'.cell? ⟨rb1, ro1 + on3, none⟩ = some (.int .i64 z))) (by kernel_rfl) (by rw [hV4]; exact s9) (fun hHeld => ?_)
        rw [hV4]
        clear hV4
        refine wpAnyH_take (i := 0) (v := ?vk50) (List.getElem?_toArray.trans rfl) (by kernel_rfl) (by kernel_rfl) (by kernel_rfl) (fun _ _ _ h => h) (Or.inl ⟨by rfl, ?yk50⟩) (by assumption) ?rk50
        case yk50 => (intro w hSw; (try dsimp only at hSw); go_simp; try with_reducible rfl)
        try simp only [Act.put, List.setIfInBounds_toArray, List.set_cons_zero, List.set_cons_succ]
        refine wpAnyH_take (i := 1) (v := ?vk51) (List.getElem?_toArray.trans rfl) (by kernel_rfl) (by kernel_rfl) (by kernel_rfl) (fun _ _ _ h => h) (Or.inl ⟨by rfl, ?yk51⟩) (by assumption) ?rk51
        case yk51 => (intro w hSw; (try dsimp only at hSw); go_simp; try with_reducible rfl)
        try simp only [Act.put, List.setIfInBounds_toArray, List.set_cons_zero, List.set_cons_succ]
        refine wpAnyH_take (i := 2) (v := ?vk52) (List.getElem?_toArray.trans rfl) (by kernel_rfl) (by kernel_rfl) (by kernel_rfl) (fun _ _ _ h => h) (Or.inl ⟨by rfl, ?yk52⟩) (by assumption) ?rk52
        case yk52 => (intro w hSw; (try dsimp only at hSw); go_simp; try with_reducible rfl)
        try simp only [Act.put, List.setIfInBounds_toArray, List.set_cons_zero, List.set_cons_succ]
        refine wpAnyH_take (i := 3) (v := ?vk53) (List.getElem?_toArray.trans rfl) (by kernel_rfl) (by kernel_rfl) (by kernel_rfl) (fun _ _ _ h => h) (Or.inl ⟨by rfl, ?yk53⟩) (by assumption) ?rk53
        case yk53 => (intro w hSw; (try dsimp only at hSw); go_simp; try with_reducible rfl)
        try simp only [Act.put, List.setIfInBounds_toArray, List.set_cons_zero, List.set_cons_succ]
        refine wpAnyH_take (i := 4) (v := ?vk54) (List.getElem?_toArray.trans rfl) (by kernel_rfl) (by kernel_rfl) (by kernel_rfl) (fun _ _ _ h => h) (Or.inl ⟨by rfl, ?yk54⟩) (by assumption) ?rk54
        case yk54 => (intro w hSw; (try dsimp only at hSw); go_simp; try with_reducible rfl)
        try simp only [Act.put, List.setIfInBounds_toArray, List.set_cons_zero, List.set_cons_succ]
        refine wpAnyH_take (i := 5) (v := ?vk55) (List.getElem?_toArray.trans rfl) (by kernel_rfl) (by kernel_rfl) (by kernel_rfl) (fun _ _ _ h => h) (Or.inl ⟨by rfl, ?yk55⟩) (by assumption) ?rk55
        case yk55 => (intro w hSw; (try dsimp only at hSw); go_simp; try with_reducible rfl)
        try simp only [Act.put, List.setIfInBounds_toArray, List.set_cons_zero, List.set_cons_succ]
        refine wpAnyH_take (i := 6) (v := ?vk56) (List.getElem?_toArray.trans rfl) (by kernel_rfl) (by kernel_rfl) (by kernel_rfl) (fun _ _ _ h => h) (Or.inl ⟨by rfl, ?yk56⟩) (by assumption) ?rk56
        case yk56 => (intro w hSw; (try dsimp only at hSw); go_simp; try with_reducible rfl)
        try simp only [Act.put, List.setIfInBounds_toArray, List.set_cons_zero, List.set_cons_succ]
        refine wpAnyH_take (i := 7) (v := ?vk57) (List.getElem?_toArray.trans rfl) (by kernel_rfl) (by kernel_rfl) (by kernel_rfl) (fun _ _ _ h => h) (Or.inl ⟨by rfl, ?yk57⟩) (by assumption) ?rk57
        case yk57 => (intro w hSw; (try dsimp only at hSw); go_simp; try with_reducible rfl)
        try simp only [Act.put, List.setIfInBounds_toArray, List.set_cons_zero, List.set_cons_succ]
        refine wpAnyH_take (i := 8) (v := ?vk58) (List.getElem?_toArray.trans rfl) (by kernel_rfl) (by kernel_rfl) (by kernel_rfl) (fun _ _ _ h => h) (Or.inl ⟨by rfl, ?yk58⟩) (by assumption) ?rk58
        case yk58 => (intro w hSw; (try dsimp only at hSw); go_simp; try with_reducible rfl)
        try simp only [Act.put, List.setIfInBounds_toArray, List.set_cons_zero, List.set_cons_succ]
        refine wpAnyH_take (i := 9) (v := ?vk59) (List.getElem?_toArray.trans rfl) (by kernel_rfl) (by kernel_rfl) (by kernel_rfl) (fun _ _ _ h => h) (Or.inl ⟨by rfl, ?yk59⟩) (by assumption) ?rk59
        case yk59 => (intro w hSw; (try dsimp only at hSw); go_simp; try with_reducible rfl)
        try simp only [Act.put, List.setIfInBounds_toArray, List.set_cons_zero, List.set_cons_succ]
        refine wpAnyH_take (i := 10) (v := ?vk510) (List.getElem?_toArray.trans rfl) (by kernel_rfl) (by kernel_rfl) (by kernel_rfl) (fun _ _ _ h => h) (Or.inl ⟨by rfl, ?yk510⟩) (by assumption) ?rk510
        case yk510 => (intro w hSw; (try dsimp only at hSw); go_simp; try with_reducible rfl)
        try simp only [Act.put, List.setIfInBounds_toArray, List.set_cons_zero, List.set_cons_succ]
        refine wpAnyH_take (i := 11) (v := ?vk511) (List.getElem?_toArray.trans rfl) (by kernel_rfl) (by kernel_rfl) (by kernel_rfl) (fun _ _ _ h => h) (Or.inl ⟨by rfl, ?yk511⟩) (by assumption) ?rk511
        case yk511 => (intro w hSw; (try dsimp only at hSw); go_simp; try with_reducible rfl)
        try simp only [Act.put, List.setIfInBounds_toArray, List.set_cons_zero, List.set_cons_succ]
        refine wpAnyH_take (i := 12) (v := ?vk512) (List.getElem?_toArray.trans rfl) (by kernel_rfl) (by kernel_rfl) (by kernel_rfl) (fun _ _ _ h => h) (Or.inl ⟨by rfl, ?yk512⟩) (by assumption) ?rk512
        case yk512 => (intro w hSw; (try dsimp only at hSw); go_simp; try with_reducible rfl)
        try simp only [Act.put, List.setIfInBounds_toArray, List.set_cons_zero, List.set_cons_succ]
        refine wpAnyH_take (i := 13) (v := ?vk513) (List.getElem?_toArray.trans rfl) (by kernel_rfl) (by kernel_rfl) (by kernel_rfl) (fun _ _ _ h => h) (Or.inl ⟨by rfl, ?yk513⟩) (by assumption) ?rk513
        case yk513 => (intro w hSw; (try dsimp only at hSw); go_simp; try with_reducible rfl)
        try simp only [Act.put, List.setIfInBounds_toArray, List.set_cons_zero, List.set_cons_succ]
        refine wpAnyH_take (i := 14) (v := ?vk514) (List.getElem?_toArray.trans rfl) (by kernel_rfl) (by kernel_rfl) (by kernel_rfl) (fun _ _ _ h => h) (Or.inl ⟨by rfl, ?yk514⟩) (by assumption) ?rk514
        case yk514 => (intro w hSw; (try dsimp only at hSw); go_simp; try with_reducible rfl)
        try simp only [Act.put, List.setIfInBounds_toArray, List.set_cons_zero, List.set_cons_succ]
        refine wpAnyH_take (i := 15) (v := ?vk515) (List.getElem?_toArray.trans rfl) (by kernel_rfl) (by kernel_rfl) (by kernel_rfl) (fun _ _ _ h => h) (Or.inl ⟨by rfl, ?yk515⟩) (by assumption) ?rk515
        case yk515 => (intro w hSw; (try dsimp only at hSw); go_simp; try with_reducible rfl)
        try simp only [Act.put, List.setIfInBounds_toArray, List.set_cons_zero, List.set_cons_succ]
        refine wpAnyH_take (i := 16) (v := .int .i64 (y + z)) (List.getElem?_toArray.trans rfl) (by kernel_rfl) (by kernel_rfl) (by kernel_rfl) (fun _ _ _ h => h) (Or.inl ⟨by rfl, ?yk516⟩) (by assumption) ?rk516
        case yk516 => (intro w hSw; (try dsimp only at hSw); go_simp; try simp [hwr])
        try simp only [Act.put, List.setIfInBounds_toArray, List.set_cons_zero, List.set_cons_succ]
        refine wpAnyH_take (i := 17) (v := .int .i64 m) (List.getElem?_toArray.trans rfl) (by kernel_rfl) (by kernel_rfl) (by kernel_rfl) (fun _ _ _ h => h) (Or.inl ⟨by rfl, ?yk517⟩) (by assumption) ?rk517
        case yk517 => (intro w hSw; (try dsimp only at hSw); go_simp; try simp [htm])
        try simp only [Act.put, List.setIfInBounds_toArray, List.set_cons_zero, List.set_cons_succ]
        refine wpAnyH_take (i := 18) (v := ?vk518) (List.getElem?_toArray.trans rfl) (by kernel_rfl) (by kernel_rfl) (by kernel_rfl) (fun _ _ _ h => h) (Or.inl ⟨by rfl, ?yk518⟩) (by assumption) ?rk518
        case yk518 => (intro w hSw; (try dsimp only at hSw); go_simp; try with_reducible rfl)
        try simp only [Act.put, List.setIfInBounds_toArray, List.set_cons_zero, List.set_cons_succ]
        refine wpAnyH_ready (rs := [19]) (by kernel_rfl) (by simp) ?_
        refine AllReadyH.cons (List.getElem?_toArray.trans rfl) (fun K hK => ?_) AllReadyH.nil
        have z0 := tc
        have qX5 := qX.other (a := ⟨tb, toff + on1, none⟩) (.int .i64 m) (by dsimp only; omega)
        have qB5 := qB.other (a := ⟨tb, toff + on1, none⟩) (.int .i64 m) (by dsimp only; omega)
        have qO5 := qO.other (a := ⟨tb, toff + on1, none⟩) (.int .i64 m) (by dsimp only; omega)
        have qR5 := qR.other (a := ⟨tb, toff + on1, none⟩) (.int .i64 m) (by dsimp only; omega)
        have hB5 := hB4.setCell (p := ⟨tb, toff + on1, none⟩) (by dsimp only; omega) (.int .i64 m)
        have ry5 := (Mem.cell_of_heap (heap_setCell_other V4 ⟨tb, toff + on1, none⟩ rb1 (.int .i64 m) (by dsimp only; omega))).trans ry
        have rz5 := (Mem.cell_of_heap (heap_setCell_other V4 ⟨tb, toff + on1, none⟩ rb1 (.int .i64 m) (by dsimp only; omega))).trans rz
        have o25 := Owns.keep o2 (w' := V4.setCell ⟨tb, toff + on1, none⟩ (.int .i64 m)) (fun t _ hS => heap_setCell_other _ _ t _ (fun e => d12 t (show S1 t by have e2 : t = tb := e; rw [e2]; exact hSt) hS))
        have o35 := Owns.keep o3 (w' := V4.setCell ⟨tb, toff + on1, none⟩ (.int .i64 m)) (fun t _ hS => heap_setCell_other _ _ t _ (fun e => d13 t (show S1 t by have e2 : t = tb := e; rw [e2]; exact hSt) hS))
        go_simp
        obtain ⟨V5, hV5⟩ : ∃ V5, V4.setCell ⟨tb, toff + on1, none⟩ (.int .i64 m) = V5 := ⟨_, rfl⟩
        have hs5 : V5.heap.size = V4.heap.size := by rw [← hV5, gsize_set]
        rw [hV5] at qX5 qB5 qO5 qR5 hB5 o25 o35 ry5 rz5 tput ⊢
        have s9 : V5.cell? ⟨w1.heap.size, 1, none⟩ = some (.slice (some ⟨tb, toff, none⟩) 4 y1) ∧ V5.cell? ⟨w2.heap.size, 1, none⟩ = some (.int .i64 (on1 : Int)) ∧ V5.cell? ⟨w2.heap.size, 2, none⟩ = some (.int .i64 (on2 : Int)) ∧ V5.cell? ⟨w2.heap.size, 3, none⟩ = some (.int .i64 (on3 : Int)) ∧ V5.cell? ⟨w.heap.size, 1, none⟩ = some (.slice (some ⟨rb1, ro1, none⟩) 4 c1) ∧ V5.cell? ⟨rb1, ro1 + on2, none⟩ = some (.int .i64 y) ∧ V5.cell? ⟨rb1, ro1 + on3, none⟩ = some (.int .i64 z) := ⟨qX5.at rfl, qO5.at rfl, qO5.at rfl, qO5.at rfl, qB5.at rfl, ry5, rz5⟩
        refine hK.out _ _ s9 (fun hHeld => ?_)
        clear hK K
        try simp only [Act.put, List.setIfInBounds_toArray, List.set_cons_zero, List.set_cons_succ]
        refine wpAnyH_done (by kernel_rfl) ?_ _
        have hR5 : R = ⟨P.f0 + 1, P.f1.set on1 m, P.f2, P.f3⟩ := by
          rw [HRS.out]
          simp only [stepped, HKS.out, HON1.out, HON2.out, HON3.out, Int.toNat_natCast, HY.out, HZ.out]
          simp [HM.out]
        have HR5 := Lib.hid hR5
        clear hR5
        have hz5 : w2.heap.size + 1 ≤ V5.heap.size := by omega
        have hR6 := Lib.hid (show R = ⟨(j : Int) + 1, P.f1.set on1 m, P.f2, P.f3⟩ by rw [HR5.out, HJ.out])
        go_wp2_with fail
        go_meet
        case rel => exact ⟨rfl, _, _, _, _, _, rfl, hR6.out, (by rw [List.length_set]; exact HL1.out), HL2.out, HL3.out, qX5, qR5, tput, o25, o35, hB5, hz5⟩
      · obtain ⟨on2, hon2⟩ : ∃ a : Nat, o.f2 = (a : Int) := ⟨o.f2.toNat, by omega⟩
        have hb2 : on2 < 4 := by omega
        have hbi : (on2 : Int) < 4 := by omega
        have HON2 := Lib.hid hon2
        rw [hon2] at qO
        clear hon2
        have ry := hr1 on1 (by omega)
        have bdy := hg1 on1 (by omega)
        obtain ⟨y, hy⟩ : ∃ q, P.f1.getD on1 0 = q := ⟨_, rfl⟩
        rw [hy] at ry bdy
        have HY := Lib.hid hy
        clear hy
        obtain ⟨tb, toff, hk, hSt, tc, tf, tput⟩ := owns_put o3 HL3.out (j := on2) (by omega)
        subst hk
        have tput := tput y (wf_in (by omega) (by omega))
        have tub := u3 tb hSt
        go_upto_region 11 with fail
        obtain ⟨V4, hV4⟩ : ∃ V4, V3.drew = V4 := ⟨_, rfl⟩
        have hA4 : Below V3.heap.size V3 V4 := by rw [← hV4]; exact gbelow_drewN (Below.refl _ _) 1
        have tput : Owns (V4.setCell ⟨tb, toff + on2, none⟩ (.int .i64 y)) (ints (P.f3.set on2 y)) (.slice (some ⟨tb, toff, none⟩) 4 y3) S3 := by rw [← hV4]; exact tput.keep (fun _ _ _ => rfl)
        have qX := qX.below hA4
        have qB := qB.below hA4
        have qO := qO.below hA4
        have qR := qR.below hA4
        have o1 := Owns.below o1 hA4
        have o2 := Owns.below o2 hA4
        have tc := (Mem.cell_of_heap (hA4.block tb (Mem.cell_lt tc))).trans tc
        have tf : V4.frozen? ⟨tb, toff + on2, none⟩ = false := by rw [← hV4]; exact tf
        have ry := (Mem.cell_of_heap (hA4.block _ (Mem.cell_lt ry))).trans ry
        have hB4 := hB4.trans (hA4.mono hB4.size)
        have hz4 := Nat.le_trans hz4 hA4.size
        have s9 : V4.cell? ⟨w1.heap.size, 3, none⟩ = some (.slice (some ⟨tb, toff, none⟩) 4 y3) ∧ V4.cell? ⟨w2.heap.size, 1, none⟩ = some (.int .i64 (on1 : Int)) ∧ V4.cell? ⟨w2.heap.size, 2, none⟩ = some (.int .i64 (on2 : Int)) ∧ V4.cell? ⟨w.heap.size, 1, none⟩ = some (.slice (some ⟨rb1, ro1, none⟩) 4 c1) ∧ V4.cell? ⟨rb1, ro1 + on1, none⟩ = some (.int .i64 y) := ⟨qX.at rfl, qO.at rfl, qO.at rfl, qB.at rfl, ry⟩
        clear hA4 hr1 hr2 hg1 hg2 hnums
        refine wp_region_held_drew (S := (fun w' => w'.cell? ⟨w1.heap.size, 3, none⟩ = some (.slice (some ⟨tb, toff, none⟩) 4 y3) ∧ w'.cell? ⟨w2.heap.size, 1, none⟩ = some (.int .i64 (on1 : Int)) ∧ w'.cell? ⟨w2.heap.size, 2, none⟩ = some (.int .i64 (on2 : Int)) ∧ w'.cell? ⟨w.heap.size, 1, none⟩ = some (.slice (some ⟨rb1, ro1, none⟩) 4 c1) ∧ w'.cell? ⟨rb1, ro1 + on1, none⟩ = some (.int .i64 y))) (by kernel_rfl) (by rw [hV4]; exact s9) (fun hHeld => ?_)
        rw [hV4]
        clear hV4
        refine wpAnyH_take (i := 0) (v := ?vk60) (List.getElem?_toArray.trans rfl) (by kernel_rfl) (by kernel_rfl) (by kernel_rfl) (fun _ _ _ h => h) (Or.inl ⟨by rfl, ?yk60⟩) (by assumption) ?rk60
        case yk60 => (intro w hSw; (try dsimp only at hSw); go_simp; try with_reducible rfl)
        try simp only [Act.put, List.setIfInBounds_toArray, List.set_cons_zero, List.set_cons_succ]
        refine wpAnyH_take (i := 1) (v := ?vk61) (List.getElem?_toArray.trans rfl) (by kernel_rfl) (by kernel_rfl) (by kernel_rfl) (fun _ _ _ h => h) (Or.inl ⟨by rfl, ?yk61⟩) (by assumption) ?rk61
        case yk61 => (intro w hSw; (try dsimp only at hSw); go_simp; try with_reducible rfl)
        try simp only [Act.put, List.setIfInBounds_toArray, List.set_cons_zero, List.set_cons_succ]
        refine wpAnyH_take (i := 2) (v := ?vk62) (List.getElem?_toArray.trans rfl) (by kernel_rfl) (by kernel_rfl) (by kernel_rfl) (fun _ _ _ h => h) (Or.inl ⟨by rfl, ?yk62⟩) (by assumption) ?rk62
        case yk62 => (intro w hSw; (try dsimp only at hSw); go_simp; try with_reducible rfl)
        try simp only [Act.put, List.setIfInBounds_toArray, List.set_cons_zero, List.set_cons_succ]
        refine wpAnyH_take (i := 3) (v := ?vk63) (List.getElem?_toArray.trans rfl) (by kernel_rfl) (by kernel_rfl) (by kernel_rfl) (fun _ _ _ h => h) (Or.inl ⟨by rfl, ?yk63⟩) (by assumption) ?rk63
        case yk63 => (intro w hSw; (try dsimp only at hSw); go_simp; try with_reducible rfl)
        try simp only [Act.put, List.setIfInBounds_toArray, List.set_cons_zero, List.set_cons_succ]
        refine wpAnyH_take (i := 4) (v := ?vk64) (List.getElem?_toArray.trans rfl) (by kernel_rfl) (by kernel_rfl) (by kernel_rfl) (fun _ _ _ h => h) (Or.inl ⟨by rfl, ?yk64⟩) (by assumption) ?rk64
        case yk64 => (intro w hSw; (try dsimp only at hSw); go_simp; try with_reducible rfl)
        try simp only [Act.put, List.setIfInBounds_toArray, List.set_cons_zero, List.set_cons_succ]
        refine wpAnyH_take (i := 5) (v := ?vk65) (List.getElem?_toArray.trans rfl) (by kernel_rfl) (by kernel_rfl) (by kernel_rfl) (fun _ _ _ h => h) (Or.inl ⟨by rfl, ?yk65⟩) (by assumption) ?rk65
        case yk65 => (intro w hSw; (try dsimp only at hSw); go_simp; try with_reducible rfl)
        try simp only [Act.put, List.setIfInBounds_toArray, List.set_cons_zero, List.set_cons_succ]
        refine wpAnyH_take (i := 6) (v := ?vk66) (List.getElem?_toArray.trans rfl) (by kernel_rfl) (by kernel_rfl) (by kernel_rfl) (fun _ _ _ h => h) (Or.inl ⟨by rfl, ?yk66⟩) (by assumption) ?rk66
        case yk66 => (intro w hSw; (try dsimp only at hSw); go_simp; try with_reducible rfl)
        try simp only [Act.put, List.setIfInBounds_toArray, List.set_cons_zero, List.set_cons_succ]
        refine wpAnyH_take (i := 7) (v := ?vk67) (List.getElem?_toArray.trans rfl) (by kernel_rfl) (by kernel_rfl) (by kernel_rfl) (fun _ _ _ h => h) (Or.inl ⟨by rfl, ?yk67⟩) (by assumption) ?rk67
        case yk67 => (intro w hSw; (try dsimp only at hSw); go_simp; try with_reducible rfl)
        try simp only [Act.put, List.setIfInBounds_toArray, List.set_cons_zero, List.set_cons_succ]
        refine wpAnyH_take (i := 8) (v := ?vk68) (List.getElem?_toArray.trans rfl) (by kernel_rfl) (by kernel_rfl) (by kernel_rfl) (fun _ _ _ h => h) (Or.inl ⟨by rfl, ?yk68⟩) (by assumption) ?rk68
        case yk68 => (intro w hSw; (try dsimp only at hSw); go_simp; try with_reducible rfl)
        try simp only [Act.put, List.setIfInBounds_toArray, List.set_cons_zero, List.set_cons_succ]
        refine wpAnyH_take (i := 9) (v := ?vk69) (List.getElem?_toArray.trans rfl) (by kernel_rfl) (by kernel_rfl) (by kernel_rfl) (fun _ _ _ h => h) (Or.inl ⟨by rfl, ?yk69⟩) (by assumption) ?rk69
        case yk69 => (intro w hSw; (try dsimp only at hSw); go_simp; try with_reducible rfl)
        try simp only [Act.put, List.setIfInBounds_toArray, List.set_cons_zero, List.set_cons_succ]
        refine wpAnyH_take (i := 10) (v := ?vk610) (List.getElem?_toArray.trans rfl) (by kernel_rfl) (by kernel_rfl) (by kernel_rfl) (fun _ _ _ h => h) (Or.inl ⟨by rfl, ?yk610⟩) (by assumption) ?rk610
        case yk610 => (intro w hSw; (try dsimp only at hSw); go_simp; try with_reducible rfl)
        try simp only [Act.put, List.setIfInBounds_toArray, List.set_cons_zero, List.set_cons_succ]
        refine wpAnyH_ready (rs := [11]) (by kernel_rfl) (by simp) ?_
        refine AllReadyH.cons (List.getElem?_toArray.trans rfl) (fun K hK => ?_) AllReadyH.nil
        have z0 := tc
        have qX5 := qX.other (a := ⟨tb, toff + on2, none⟩) (.int .i64 y) (by dsimp only; omega)
        have qB5 := qB.other (a := ⟨tb, toff + on2, none⟩) (.int .i64 y) (by dsimp only; omega)
        have qO5 := qO.other (a := ⟨tb, toff + on2, none⟩) (.int .i64 y) (by dsimp only; omega)
        have qR5 := qR.other (a := ⟨tb, toff + on2, none⟩) (.int .i64 y) (by dsimp only; omega)
        have hB5 := hB4.setCell (p := ⟨tb, toff + on2, none⟩) (by dsimp only; omega) (.int .i64 y)
        have ry5 := (Mem.cell_of_heap (heap_setCell_other V4 ⟨tb, toff + on2, none⟩ rb1 (.int .i64 y) (by dsimp only; omega))).trans ry
        have o15 := Owns.keep o1 (w' := V4.setCell ⟨tb, toff + on2, none⟩ (.int .i64 y)) (fun t _ hS => heap_setCell_other _ _ t _ (fun e => d13 t hS (show S3 t by have e2 : t = tb := e; rw [e2]; exact hSt)))
        have o25 := Owns.keep o2 (w' := V4.setCell ⟨tb, toff + on2, none⟩ (.int .i64 y)) (fun t _ hS => heap_setCell_other _ _ t _ (fun e => d23 t hS (show S3 t by have e2 : t = tb := e; rw [e2]; exact hSt)))
        go_simp
        obtain ⟨V5, hV5⟩ : ∃ V5, V4.setCell ⟨tb, toff + on2, none⟩ (.int .i64 y) = V5 := ⟨_, rfl⟩
        have hs5 : V5.heap.size = V4.heap.size := by rw [← hV5, gsize_set]
        rw [hV5] at qX5 qB5 qO5 qR5 hB5 o15 o25 ry5 tput ⊢
        have s9 : V5.cell? ⟨w1.heap.size, 3, none⟩ = some (.slice (some ⟨tb, toff, none⟩) 4 y3) ∧ V5.cell? ⟨w2.heap.size, 1, none⟩ = some (.int .i64 (on1 : Int)) ∧ V5.cell? ⟨w2.heap.size, 2, none⟩ = some (.int .i64 (on2 : Int)) ∧ V5.cell? ⟨w.heap.size, 1, none⟩ = some (.slice (some ⟨rb1, ro1, none⟩) 4 c1) ∧ V5.cell? ⟨rb1, ro1 + on1, none⟩ = some (.int .i64 y) := ⟨qX5.at rfl, qO5.at rfl, qO5.at rfl, qB5.at rfl, ry5⟩
        refine hK.out _ _ s9 (fun hHeld => ?_)
        clear hK K
        try simp only [Act.put, List.setIfInBounds_toArray, List.set_cons_zero, List.set_cons_succ]
        refine wpAnyH_done (by kernel_rfl) ?_ _
        have hR5 : R = ⟨P.f0 + 1, P.f1, P.f2, P.f3.set on2 y⟩ := by
          rw [HRS.out]
          simp only [stepped, HKS.out, HON1.out, HON2.out, Int.toNat_natCast, HY.out]
          simp
        have HR5 := Lib.hid hR5
        clear hR5
        have hz5 : w2.heap.size + 1 ≤ V5.heap.size := by omega
        have hR6 := Lib.hid (show R = ⟨(j : Int) + 1, P.f1, P.f2, P.f3.set on2 y⟩ by rw [HR5.out, HJ.out])
        go_wp2_with fail
        go_meet
        case rel => exact ⟨rfl, _, _, _, _, _, rfl, hR6.out, HL1.out, HL2.out, (by rw [List.length_set]; exact HL3.out), qX5, qR5, o15, o25, tput, hB5, hz5⟩
      · obtain ⟨on2, hon2⟩ : ∃ a : Int, o.f2 = a := ⟨_, rfl⟩
        have hb2 : 1 ≤ on2 ∧ on2 ≤ 3 := by omega
        have HON2 := Lib.hid hon2
        rw [hon2] at qO
        clear hon2
        have ry := hr1 on1 (by omega)
        have bdy := hg1 on1 (by omega)
        obtain ⟨y, hy⟩ : ∃ q, P.f1.getD on1 0 = q := ⟨_, rfl⟩
        rw [hy] at ry bdy
        have HY := Lib.hid hy
        clear hy
        obtain ⟨q, hq⟩ : ∃ q, y % 2 = q := ⟨_, rfl⟩
        have htm : y.tmod 2 = q := by rw [Int.tmod_eq_emod_of_nonneg (by omega)]; exact hq
        have HQ := Lib.hid hq
        clear hq
        have x1 := qO.at (x := 1) rfl
        have x2 := qO.at (x := 2) rfl
        have v0 := qB.at (x := 0) rfl
        have v1 := qB.at (x := 1) rfl
        have z0 := qX.at (x := 0) rfl
        have d0 := qX.free 0
        clear hr1 hr2 hg1 hg2 hnums
        by_cases q0 : q = 0
        · subst q0
          have hR6 := Lib.hid (show R = ⟨(j : Int) + 1 + on2, P.f1, P.f2, P.f3⟩ by rw [HRS.out]; simp only [stepped, HKS.out, HON1.out, HON2.out, Int.toNat_natCast, HY.out, HQ.out, HJ.out]; simp)
          have hne : ∀ t, t ≠ w1.heap.size → (V3.setCell ⟨w1.heap.size, 0, none⟩ (.int .i64 ((j : Int) + 1 + on2))).heap[t]? = V3.heap[t]? := fun t h => heap_setCell_other _ _ t _ (by dsimp only; omega)
          have p1 := Owns.keep o1 (fun t _ hS => hne t (by have := u1 t hS; omega))
          have p2 := Owns.keep o2 (fun t _ hS => hne t (by have := u2 t hS; omega))
          have p3 := Owns.keep o3 (fun t _ hS => hne t (by have := u3 t hS; omega))
          have qX5 := qX.set 0 (.int .i64 ((j : Int) + 1 + on2))
          simp only [List.set_cons_zero] at qX5
          have qR5 := qR.other (a := ⟨w1.heap.size, 0, none⟩) (.int .i64 ((j : Int) + 1 + on2)) (by dsimp only; omega)
          have hB5 := hB4.setCell (p := ⟨w1.heap.size, 0, none⟩) (by dsimp only; omega) (.int .i64 ((j : Int) + 1 + on2))
          have hz5 : w2.heap.size + 1 ≤ (V3.setCell ⟨w1.heap.size, 0, none⟩ (.int .i64 ((j : Int) + 1 + on2))).heap.size := by rw [gsize_set]; omega
          clear hne
          go_wp2_with fail
          go_meet
          case rel => exact ⟨rfl, _, _, _, _, _, rfl, hR6.out, HL1.out, HL2.out, HL3.out, qX5, qR5, p1, p2, p3, hB5, hz5⟩
        · have hq9 : (q == 0) = false := by simpa using q0
          have hR6 := Lib.hid (show R = ⟨(j : Int) + 1, P.f1, P.f2, P.f3⟩ by rw [HRS.out]; simp only [stepped, HKS.out, HON1.out, HON2.out, Int.toNat_natCast, HY.out, HQ.out, HJ.out]; simp [q0])
          go_wp2_with fail
          go_meet
          case rel => exact ⟨rfl, _, _, _, _, _, rfl, hR6.out, HL1.out, HL2.out, HL3.out, qX, qR, o1, o2, o3, hB4, hz4⟩
      · obtain ⟨on2, hon2⟩ : ∃ a : Nat, o.f2 = (a : Int) := ⟨o.f2.toNat, by omega⟩
        have hb2 : on2 < 3 := by omega
        have hbi : (on2 : Int) < 3 := by omega
        have HON2 := Lib.hid hon2
        rw [hon2] at qO
        clear hon2
        have ry := hr2 on2 (by omega)
        have bdy := hg2 on2 (by omega)
        obtain ⟨y, hy⟩ : ∃ q, P.f2.getD on2 0 = q := ⟨_, rfl⟩
        rw [hy] at ry bdy
        have HY := Lib.hid hy
        clear hy
        obtain ⟨tb, toff, hk, hSt, tc, tf, tput⟩ := owns_put o1 HL1.out (j := on1) (by omega)
        subst hk
        have tput := tput y (wf_in (by omega) (by omega))
        have tub := u1 tb hSt
        go_upto_region 16 with fail
        obtain ⟨V4, hV4⟩ : ∃ V4, V3.drew = V4 := ⟨_, rfl⟩
        have hA4 : Below V3.heap.size V3 V4 := by rw [← hV4]; exact gbelow_drewN (Below.refl _ _) 1
        have tput : Owns (V4.setCell ⟨tb, toff + on1, none⟩ (.int .i64 y)) (ints (P.f1.set on1 y)) (.slice (some ⟨tb, toff, none⟩) 4 y1) S1 := by rw [← hV4]; exact tput.keep (fun _ _ _ => rfl)
        have qX := qX.below hA4
        have qB := qB.below hA4
        have qO := qO.below hA4
        have qR := qR.below hA4
        have o2 := Owns.below o2 hA4
        have o3 := Owns.below o3 hA4
        have tc := (Mem.cell_of_heap (hA4.block tb (Mem.cell_lt tc))).trans tc
        have tf : V4.frozen? ⟨tb, toff + on1, none⟩ = false := by rw [← hV4]; exact tf
        have ry := (Mem.cell_of_heap (hA4.block _ (Mem.cell_lt ry))).trans ry
        have hB4 := hB4.trans (hA4.mono hB4.size)
        have hz4 := Nat.le_trans hz4 hA4.size
        have s9 : V4.cell? ⟨w1.heap.size, 1, none⟩ = some (.slice (some ⟨tb, toff, none⟩) 4 y1) ∧ V4.cell? ⟨w2.heap.size, 1, none⟩ = some (.int .i64 (on1 : Int)) ∧ V4.cell? ⟨w2.heap.size, 2, none⟩ = some (.int .i64 (on2 : Int)) ∧ V4.cell? ⟨w.heap.size, 2, none⟩ = some (.slice (some ⟨rb2, ro2, none⟩) 3 c2) ∧ V4.cell? ⟨rb2, ro2 + on2, none⟩ = some (.int .i64 y) := ⟨qX.at rfl, qO.at rfl, qO.at rfl, qB.at rfl, ry⟩
        clear hA4 hr1 hr2 hg1 hg2 hnums
        refine wp_region_held_drew (S := (fun w' => w'.cell? ⟨w1.heap.size, 1, none⟩ = some (.slice (some ⟨tb, toff, none⟩) 4 y1) ∧ w'.cell? ⟨w2.heap.size, 1, none⟩ = some (.int .i64 (on1 : Int)) ∧ w'.cell? ⟨w2.heap.size, 2, none⟩ = some (.int .i64 (on2 : Int)) ∧ w'.cell? ⟨w.heap.size, 2, none⟩ = some (.slice (some ⟨rb2, ro2, none⟩) 3 c2) ∧ w'.cell? ⟨rb2, ro2 + on2, none⟩ = some (.int .i64 y))) (by kernel_rfl) (by rw [hV4]; exact s9) (fun hHeld => ?_)
        rw [hV4]
        clear hV4
        refine wpAnyH_take (i := 0) (v := ?vk80) (List.getElem?_toArray.trans rfl) (by kernel_rfl) (by kernel_rfl) (by kernel_rfl) (fun _ _ _ h => h) (Or.inl ⟨by rfl, ?yk80⟩) (by assumption) ?rk80
        case yk80 => (intro w hSw; (try dsimp only at hSw); go_simp; try with_reducible rfl)
        try simp only [Act.put, List.setIfInBounds_toArray, List.set_cons_zero, List.set_cons_succ]
        refine wpAnyH_take (i := 1) (v := ?vk81) (List.getElem?_toArray.trans rfl) (by kernel_rfl) (by kernel_rfl) (by kernel_rfl) (fun _ _ _ h => h) (Or.inl ⟨by rfl, ?yk81⟩) (by assumption) ?rk81
        case yk81 => (intro w hSw; (try dsimp only at hSw); go_simp; try with_reducible rfl)
        try simp only [Act.put, List.setIfInBounds_toArray, List.set_cons_zero, List.set_cons_succ]
        refine wpAnyH_take (i := 2) (v := ?vk82) (List.getElem?_toArray.trans rfl) (by kernel_rfl) (by kernel_rfl) (by kernel_rfl) (fun _ _ _ h => h) (Or.inl ⟨by rfl, ?yk82⟩) (by assumption) ?rk82
        case yk82 => (intro w hSw; (try dsimp only at hSw); go_simp; try with_reducible rfl)
        try simp only [Act.put, List.setIfInBounds_toArray, List.set_cons_zero, List.set_cons_succ]
        refine wpAnyH_take (i := 3) (v := ?vk83) (List.getElem?_toArray.trans rfl) (by kernel_rfl) (by kernel_rfl) (by kernel_rfl) (fun _ _ _ h => h) (Or.inl ⟨by rfl, ?yk83⟩) (by assumption) ?rk83
        case yk83 => (intro w hSw; (try dsimp only at hSw); go_simp; try with_reducible rfl)
        try simp only [Act.put, List.setIfInBounds_toArray, List.set_cons_zero, List.set_cons_succ]
        refine wpAnyH_take (i := 4) (v := ?vk84) (List.getElem?_toArray.trans rfl) (by kernel_rfl) (by kernel_rfl) (by kernel_rfl) (fun _ _ _ h => h) (Or.inl ⟨by rfl, ?yk84⟩) (by assumption) ?rk84
        case yk84 => (intro w hSw; (try dsimp only at hSw); go_simp; try with_reducible rfl)
        try simp only [Act.put, List.setIfInBounds_toArray, List.set_cons_zero, List.set_cons_succ]
        refine wpAnyH_take (i := 5) (v := ?vk85) (List.getElem?_toArray.trans rfl) (by kernel_rfl) (by kernel_rfl) (by kernel_rfl) (fun _ _ _ h => h) (Or.inl ⟨by rfl, ?yk85⟩) (by assumption) ?rk85
        case yk85 => (intro w hSw; (try dsimp only at hSw); go_simp; try with_reducible rfl)
        try simp only [Act.put, List.setIfInBounds_toArray, List.set_cons_zero, List.set_cons_succ]
        refine wpAnyH_take (i := 6) (v := ?vk86) (List.getElem?_toArray.trans rfl) (by kernel_rfl) (by kernel_rfl) (by kernel_rfl) (fun _ _ _ h => h) (Or.inl ⟨by rfl, ?yk86⟩) (by assumption) ?rk86
        case yk86 => (intro w hSw; (try dsimp only at hSw); go_simp; try with_reducible rfl)
        try simp only [Act.put, List.setIfInBounds_toArray, List.set_cons_zero, List.set_cons_succ]
        refine wpAnyH_take (i := 7) (v := ?vk87) (List.getElem?_toArray.trans rfl) (by kernel_rfl) (by kernel_rfl) (by kernel_rfl) (fun _ _ _ h => h) (Or.inl ⟨by rfl, ?yk87⟩) (by assumption) ?rk87
        case yk87 => (intro w hSw; (try dsimp only at hSw); go_simp; try with_reducible rfl)
        try simp only [Act.put, List.setIfInBounds_toArray, List.set_cons_zero, List.set_cons_succ]
        refine wpAnyH_take (i := 8) (v := ?vk88) (List.getElem?_toArray.trans rfl) (by kernel_rfl) (by kernel_rfl) (by kernel_rfl) (fun _ _ _ h => h) (Or.inl ⟨by rfl, ?yk88⟩) (by assumption) ?rk88
        case yk88 => (intro w hSw; (try dsimp only at hSw); go_simp; try with_reducible rfl)
        try simp only [Act.put, List.setIfInBounds_toArray, List.set_cons_zero, List.set_cons_succ]
        refine wpAnyH_take (i := 9) (v := ?vk89) (List.getElem?_toArray.trans rfl) (by kernel_rfl) (by kernel_rfl) (by kernel_rfl) (fun _ _ _ h => h) (Or.inl ⟨by rfl, ?yk89⟩) (by assumption) ?rk89
        case yk89 => (intro w hSw; (try dsimp only at hSw); go_simp; try with_reducible rfl)
        try simp only [Act.put, List.setIfInBounds_toArray, List.set_cons_zero, List.set_cons_succ]
        refine wpAnyH_take (i := 10) (v := ?vk810) (List.getElem?_toArray.trans rfl) (by kernel_rfl) (by kernel_rfl) (by kernel_rfl) (fun _ _ _ h => h) (Or.inl ⟨by rfl, ?yk810⟩) (by assumption) ?rk810
        case yk810 => (intro w hSw; (try dsimp only at hSw); go_simp; try with_reducible rfl)
        try simp only [Act.put, List.setIfInBounds_toArray, List.set_cons_zero, List.set_cons_succ]
        refine wpAnyH_ready (rs := [11]) (by kernel_rfl) (by simp) ?_
        refine AllReadyH.cons (List.getElem?_toArray.trans rfl) (fun K hK => ?_) AllReadyH.nil
        have z0 := tc
        have qX5 := qX.other (a := ⟨tb, toff + on1, none⟩) (.int .i64 y) (by dsimp only; omega)
        have qB5 := qB.other (a := ⟨tb, toff + on1, none⟩) (.int .i64 y) (by dsimp only; omega)
        have qO5 := qO.other (a := ⟨tb, toff + on1, none⟩) (.int .i64 y) (by dsimp only; omega)
        have qR5 := qR.other (a := ⟨tb, toff + on1, none⟩) (.int .i64 y) (by dsimp only; omega)
        have hB5 := hB4.setCell (p := ⟨tb, toff + on1, none⟩) (by dsimp only; omega) (.int .i64 y)
        have ry5 := (Mem.cell_of_heap (heap_setCell_other V4 ⟨tb, toff + on1, none⟩ rb2 (.int .i64 y) (by dsimp only; omega))).trans ry
        have o25 := Owns.keep o2 (w' := V4.setCell ⟨tb, toff + on1, none⟩ (.int .i64 y)) (fun t _ hS => heap_setCell_other _ _ t _ (fun e => d12 t (show S1 t by have e2 : t = tb := e; rw [e2]; exact hSt) hS))
        have o35 := Owns.keep o3 (w' := V4.setCell ⟨tb, toff + on1, none⟩ (.int .i64 y)) (fun t _ hS => heap_setCell_other _ _ t _ (fun e => d13 t (show S1 t by have e2 : t = tb := e; rw [e2]; exact hSt) hS))
        go_simp
        obtain ⟨V5, hV5⟩ : ∃ V5, V4.setCell ⟨tb, toff + on1, none⟩ (.int .i64 y) = V5 := ⟨_, rfl⟩
        have hs5 : V5.heap.size = V4.heap.size := by rw [← hV5, gsize_set]
        rw [hV5] at qX5 qB5 qO5 qR5 hB5 o25 o35 ry5 tput ⊢
        have s9 : V5.cell? ⟨w1.heap.size, 1, none⟩ = some (.slice (some ⟨tb, toff, none⟩) 4 y1) ∧ V5.cell? ⟨w2.heap.size, 1, none⟩ = some (.int .i64 (on1 : Int)) ∧ V5.cell? ⟨w2.heap.size, 2, none⟩ = some (.int .i64 (on2 : Int)) ∧ V5.cell? ⟨w.heap.size, 2, none⟩ = some (.slice (some ⟨rb2, ro2, none⟩) 3 c2) ∧ V5.cell? ⟨rb2, ro2 + on2, none⟩ = some (.int .i64 y) := ⟨qX5.at rfl, qO5.at rfl, qO5.at rfl, qB5.at rfl, ry5⟩
        refine hK.out _ _ s9 (fun hHeld => ?_)
        clear hK K
        try simp only [Act.put, List.setIfInBounds_toArray, List.set_cons_zero, List.set_cons_succ]
        refine wpAnyH_done (by kernel_rfl) ?_ _
        have hR5 : R = ⟨P.f0 + 1, P.f1.set on1 y, P.f2, P.f3⟩ := by
          rw [HRS.out]
          simp only [stepped, HKS.out, HON1.out, HON2.out, Int.toNat_natCast, HY.out]
          simp
        have HR5 := Lib.hid hR5
        clear hR5
        have hz5 : w2.heap.size + 1 ≤ V5.heap.size := by omega
        have hR6 := Lib.hid (show R = ⟨(j : Int) + 1, P.f1.set on1 y, P.f2, P.f3⟩ by rw [HR5.out, HJ.out])
        go_wp2_with fail
        go_meet
        case rel => exact ⟨rfl, _, _, _, _, _, rfl, hR6.out, (by rw [List.length_set]; exact HL1.out), HL2.out, HL3.out, qX5, qR5, tput, o25, o35, hB5, hz5⟩
      · obtain ⟨on2, hon2⟩ : ∃ a : Nat, o.f2 = (a : Int) := ⟨o.f2.toNat, by omega⟩
        have hb2 : on2 < 3 := by omega
        have hbi : (on2 : Int) < 3 := by omega
        have HON2 := Lib.hid hon2
        rw [hon2] at qO
        clear hon2
        have ry := hr1 on1 (by omega)
        have bdy := hg1 on1 (by omega)
        obtain ⟨y, hy⟩ : ∃ q, P.f1.getD on1 0 = q := ⟨_, rfl⟩
        rw [hy] at ry bdy
        have HY := Lib.hid hy
        clear hy
        obtain ⟨tb, toff, hk, hSt, tc, tf, tput⟩ := owns_put o2 HL2.out (j := on2) (by omega)
        subst hk
        have tput := tput y (wf_in (by omega) (by omega))
        have tub := u2 tb hSt
        go_upto_region 18 with fail
        obtain ⟨V4, hV4⟩ : ∃ V4, V3.drew = V4 := ⟨_, rfl⟩
        have hA4 : Below V3.heap.size V3 V4 := by rw [← hV4]; exact gbelow_drewN (Below.refl _ _) 1
        have tput : Owns (V4.setCell ⟨tb, toff + on2, none⟩ (.int .i64 y)) (ints (P.f2.set on2 y)) (.slice (some ⟨tb, toff, none⟩) 3 y2) S2 := by rw [← hV4]; exact tput.keep (fun _ _ _ => rfl)
        have qX := qX.below hA4
        have qB := qB.below hA4
        have qO := qO.below hA4
        have qR := qR.below hA4
        have o1 := Owns.below o1 hA4
        have o3 := Owns.below o3 hA4
        have tc := (Mem.cell_of_heap (hA4.block tb (Mem.cell_lt tc))).trans tc
        have tf : V4.frozen? ⟨tb, toff + on2, none⟩ = false := by rw [← hV4]; exact tf
        have ry := (Mem.cell_of_heap (hA4.block _ (Mem.cell_lt ry))).trans ry
        have hB4 := hB4.trans (hA4.mono hB4.size)
        have hz4 := Nat.le_trans hz4 hA4.size
        have s9 : V4.cell? ⟨w1.heap.size, 2, none⟩ = some (.slice (some ⟨tb, toff, none⟩) 3 y2) ∧ V4.cell? ⟨w2.heap.size, 1, none⟩ = some (.int .i64 (on1 : Int)) ∧ V4.cell? ⟨w2.heap.size, 2, none⟩ = some (.int .i64 (on2 : Int)) ∧ V4.cell? ⟨w.heap.size, 1, none⟩ = some (.slice (some ⟨rb1, ro1, none⟩) 4 c1) ∧ V4.cell? ⟨rb1, ro1 + on1, none⟩ = some (.int .i64 y) := ⟨qX.at rfl, qO.at rfl, qO.at rfl, qB.at rfl, ry⟩
        clear hA4 hr1 hr2 hg1 hg2 hnums
        refine wp_region_held_drew (S := (fun w' => w'.cell? ⟨w1.heap.size, 2, none⟩ = some (.slice (some ⟨tb, toff, none⟩) 3 y2) ∧ w'.cell? ⟨w2.heap.size, 1, none⟩ = some (.int .i64 (on1 : Int)) ∧ w'.cell? ⟨w2.heap.size, 2, none⟩ = some (.int .i64 (on2 : Int)) ∧ w'.cell? ⟨w.heap.size, 1, none⟩ = some (.slice (some ⟨rb1, ro1, none⟩) 4 c1) ∧ w'.cell? ⟨rb1, ro1 + on1, none⟩ = some (.int .i64 y))) (by kernel_rfl) (by rw [hV4]; exact s9) (fun hHeld => ?_)
        rw [hV4]
        clear hV4
        refine wpAnyH_take (i := 0) (v := ?vk90) (List.getElem?_toArray.trans rfl) (by kernel_rfl) (by kernel_rfl) (by kernel_rfl) (fun _ _ _ h => h) (Or.inl ⟨by rfl, ?yk90⟩) (by assumption) ?rk90
        case yk90 => (intro w hSw; (try dsimp only at hSw); go_simp; try with_reducible rfl)
        try simp only [Act.put, List.setIfInBounds_toArray, List.set_cons_zero, List.set_cons_succ]
        refine wpAnyH_take (i := 1) (v := ?vk91) (List.getElem?_toArray.trans rfl) (by kernel_rfl) (by kernel_rfl) (by kernel_rfl) (fun _ _ _ h => h) (Or.inl ⟨by rfl, ?yk91⟩) (by assumption) ?rk91
        case yk91 => (intro w hSw; (try dsimp only at hSw); go_simp; try with_reducible rfl)
        try simp only [Act.put, List.setIfInBounds_toArray, List.set_cons_zero, List.set_cons_succ]
        refine wpAnyH_take (i := 2) (v := ?vk92) (List.getElem?_toArray.trans rfl) (by kernel_rfl) (by kernel_rfl) (by kernel_rfl) (fun _ _ _ h => h) (Or.inl ⟨by rfl, ?yk92⟩) (by assumption) ?rk92
        case yk92 => (intro w hSw; (try dsimp only at hSw); go_simp; try with_reducible rfl)
        try simp only [Act.put, List.setIfInBounds_toArray, List.set_cons_zero, List.set_cons_succ]
        refine wpAnyH_take (i := 3) (v := ?vk93) (List.getElem?_toArray.trans rfl) (by kernel_rfl) (by kernel_rfl) (by kernel_rfl) (fun _ _ _ h => h) (Or.inl ⟨by rfl, ?yk93⟩) (by assumption) ?rk93
        case yk93 => (intro w hSw; (try dsimp only at hSw); go_simp; try with_reducible rfl)
        try simp only [Act.put, List.setIfInBounds_toArray, List.set_cons_zero, List.set_cons_succ]
        refine wpAnyH_take (i := 4) (v := ?vk94) (List.getElem?_toArray.trans rfl) (by kernel_rfl) (by kernel_rfl) (by kernel_rfl) (fun _ _ _ h => h) (Or.inl ⟨by rfl, ?yk94⟩) (by assumption) ?rk94
        case yk94 => (intro w hSw; (try dsimp only at hSw); go_simp; try with_reducible rfl)
        try simp only [Act.put, List.setIfInBounds_toArray, List.set_cons_zero, List.set_cons_succ]
        refine wpAnyH_take (i := 5) (v := ?vk95) (List.getElem?_toArray.trans rfl) (by kernel_rfl) (by kernel_rfl) (by kernel_rfl) (fun _ _ _ h => h) (Or.inl ⟨by rfl, ?yk95⟩) (by assumption) ?rk95
        case yk95 => (intro w hSw; (try dsimp only at hSw); go_simp; try with_reducible rfl)
        try simp only [Act.put, List.setIfInBounds_toArray, List.set_cons_zero, List.set_cons_succ]
        refine wpAnyH_take (i := 6) (v := ?vk96) (List.getElem?_toArray.trans rfl) (by kernel_rfl) (by kernel_rfl) (by kernel_rfl) (fun _ _ _ h => h) (Or.inl ⟨by rfl, ?yk96⟩) (by assumption) ?rk96
        case yk96 => (intro w hSw; (try dsimp only at hSw); go_simp; try with_reducible rfl)
        try simp only [Act.put, List.setIfInBounds_toArray, List.set_cons_zero, List.set_cons_succ]
        refine wpAnyH_take (i := 7) (v := ?vk97) (List.getElem?_toArray.trans rfl) (by kernel_rfl) (by kernel_rfl) (by kernel_rfl) (fun _ _ _ h => h) (Or.inl ⟨by rfl, ?yk97⟩) (by assumption) ?rk97
        case yk97 => (intro w hSw; (try dsimp only at hSw); go_simp; try with_reducible rfl)
        try simp only [Act.put, List.setIfInBounds_toArray, List.set_cons_zero, List.set_cons_succ]
        refine wpAnyH_take (i := 8) (v := ?vk98) (List.getElem?_toArray.trans rfl) (by kernel_rfl) (by kernel_rfl) (by kernel_rfl) (fun _ _ _ h => h) (Or.inl ⟨by rfl, ?yk98⟩) (by assumption) ?rk98
        case yk98 => (intro w hSw; (try dsimp only at hSw); go_simp; try with_reducible rfl)
        try simp only [Act.put, List.setIfInBounds_toArray, List.set_cons_zero, List.set_cons_succ]
        refine wpAnyH_take (i := 9) (v := ?vk99) (List.getElem?_toArray.trans rfl) (by kernel_rfl) (by kernel_rfl) (by kernel_rfl) (fun _ _ _ h => h) (Or.inl ⟨by rfl, ?yk99⟩) (by assumption) ?rk99
        case yk99 => (intro w hSw; (try dsimp only at hSw); go_simp; try with_reducible rfl)
        try simp only [Act.put, List.setIfInBounds_toArray, List.set_cons_zero, List.set_cons_succ]
        refine wpAnyH_take (i := 10) (v := ?vk910) (List.getElem?_toArray.trans rfl) (by kernel_rfl) (by kernel_rfl) (by kernel_rfl) (fun _ _ _ h => h) (Or.inl ⟨by rfl, ?yk910⟩) (by assumption) ?rk910
        case yk910 => (intro w hSw; (try dsimp only at hSw); go_simp; try with_reducible rfl)
        try simp only [Act.put, List.setIfInBounds_toArray, List.set_cons_zero, List.set_cons_succ]
        refine wpAnyH_ready (rs := [11]) (by kernel_rfl) (by simp) ?_
        refine AllReadyH.cons (List.getElem?_toArray.trans rfl) (fun K hK => ?_) AllReadyH.nil
        have z0 := tc
        have qX5 := qX.other (a := ⟨tb, toff + on2, none⟩) (.int .i64 y) (by dsimp only; omega)
        have qB5 := qB.other (a := ⟨tb, toff + on2, none⟩) (.int .i64 y) (by dsimp only; omega)
        have qO5 := qO.other (a := ⟨tb, toff + on2, none⟩) (.int .i64 y) (by dsimp only; omega)
        have qR5 := qR.other (a := ⟨tb, toff + on2, none⟩) (.int .i64 y) (by dsimp only; omega)
        have hB5 := hB4.setCell (p := ⟨tb, toff + on2, none⟩) (by dsimp only; omega) (.int .i64 y)
        have ry5 := (Mem.cell_of_heap (heap_setCell_other V4 ⟨tb, toff + on2, none⟩ rb1 (.int .i64 y) (by dsimp only; omega))).trans ry
        have o15 := Owns.keep o1 (w' := V4.setCell ⟨tb, toff + on2, none⟩ (.int .i64 y)) (fun t _ hS => heap_setCell_other _ _ t _ (fun e => d12 t hS (show S2 t by have e2 : t = tb := e; rw [e2]; exact hSt)))
        have o35 := Owns.keep o3 (w' := V4.setCell ⟨tb, toff + on2, none⟩ (.int .i64 y)) (fun t _ hS => heap_setCell_other _ _ t _ (fun e => d23 t (show S2 t by have e2 : t = tb := e; rw [e2]; exact hSt) hS))
        go_simp
        obtain ⟨V5, hV5⟩ : ∃ V5, V4.setCell ⟨tb, toff + on2, none⟩ (.int .i64 y) = V5 := ⟨_, rfl⟩
        have hs5 : V5.heap.size = V4.heap.size := by rw [← hV5, gsize_set]
        rw [hV5] at qX5 qB5 qO5 qR5 hB5 o15 o35 ry5 tput ⊢
        have s9 : V5.cell? ⟨w1.heap.size, 2, none⟩ = some (.slice (some ⟨tb, toff, none⟩) 3 y2) ∧ V5.cell? ⟨w2.heap.size, 1, none⟩ = some (.int .i64 (on1 : Int)) ∧ V5.cell? ⟨w2.heap.size, 2, none⟩ = some (.int .i64 (on2 : Int)) ∧ V5.cell? ⟨w.heap.size, 1, none⟩ = some (.slice (some ⟨rb1, ro1, none⟩) 4 c1) ∧ V5.cell? ⟨rb1, ro1 + on1, none⟩ = some (.int .i64 y) := ⟨qX5.at rfl, qO5.at rfl, qO5.at rfl, qB5.at rfl, ry5⟩
        refine hK.out _ _ s9 (fun hHeld => ?_)
        clear hK K
        try simp only [Act.put, List.setIfInBounds_toArray, List.set_cons_zero, List.set_cons_succ]
        refine wpAnyH_done (by kernel_rfl) ?_ _
        have hR5 : R = ⟨P.f0 + 1, P.f1, P.f2.set on2 y, P.f3⟩ := by
          rw [HRS.out]
          simp only [stepped, HKS.out, HON1.out, HON2.out, Int.toNat_natCast, HY.out]
          simp
        have HR5 := Lib.hid hR5
        clear hR5
        have hz5 : w2.heap.size + 1 ≤ V5.heap.size := by omega
        have hR6 := Lib.hid (show R = ⟨(j : Int) + 1, P.f1, P.f2.set on2 y, P.f3⟩ by rw [HR5.out, HJ.out])
        go_wp2_with fail
        go_meet
        case rel => exact ⟨rfl, _, _, _, _, _, rfl, hR6.out, HL1.out, (by rw [List.length_set]; exact HL2.out), HL3.out, qX5, qR5, o15, tput, o35, hB5, hz5⟩
    case rest =>
    obtain ⟨rfl, pc, f1, f2, f3, V5, rfl, hRF, e1, e2, e3, qX, qR, o1, o2, o3, hB5, hz5⟩ := hcut
    have HRF := Lib.hid hRF
    clear hRF
    go_upto_region 19 with fail
    have s0 := qR.at (x := 0) rfl
    have s1 := qR.at (x := 1) rfl
    have s2 := qR.at (x := 2) rfl
    have s3 := qR.at (x := 3) rfl
    have t0 := qR.free 0
    have t1 := qR.free 1
    have t2 := qR.free 2
    have t3 := qR.free 3
    have v0 := qX.at (x := 0) rfl
    have v1 := qX.at (x := 1) rfl
    have v2 := qX.at (x := 2) rfl
    have v3 := qX.at (x := 3) rfl
    have qF := (((qR.set 0 (.int .i64 pc)).set 1 (.slice k1 4 y1)).set 2 (.slice k2 3 y2)).set 3 (.slice k3 4 y3)
    simp only [List.set_cons_zero, List.set_cons_succ] at qF
    have hkeep : ∀ t, t ≠ w.heap.size + 1 → (((((V5).setCell ⟨w.heap.size + 1, 0, none⟩ (.int .i64 pc)).setCell ⟨w.heap.size + 1, 1, none⟩ (.slice k1 4 y1)).setCell ⟨w.heap.size + 1, 2, none⟩ (.slice k2 3 y2)).setCell ⟨w.heap.size + 1, 3, none⟩ (.slice k3 4 y3)).heap[t]? = (V5).heap[t]? := fun t hne => by
      rw [heap_setCell_other _ _ t _ (by dsimp only; omega), heap_setCell_other _ _ t _ (by dsimp only; omega), heap_setCell_other _ _ t _ (by dsimp only; omega), heap_setCell_other _ _ t _ (by dsimp only; omega)]
    have hFB := (((hB5.setCell (p := ⟨w.heap.size + 1, 0, none⟩) (by dsimp only; omega) (.int .i64 pc)).setCell (p := ⟨w.heap.size + 1, 1, none⟩) (by dsimp only; omega) (.slice k1 4 y1)).setCell (p := ⟨w.heap.size + 1, 2, none⟩) (by dsimp only; omega) (.slice k2 3 y2)).setCell (p := ⟨w.heap.size + 1, 3, none⟩) (by dsimp only; omega) (.slice k3 4 y3)
    have hFS : (((((V5).setCell ⟨w.heap.size + 1, 0, none⟩ (.int .i64 pc)).setCell ⟨w.heap.size + 1, 1, none⟩ (.slice k1 4 y1)).setCell ⟨w.heap.size + 1, 2, none⟩ (.slice k2 3 y2)).setCell ⟨w.heap.size + 1, 3, none⟩ (.slice k3 4 y3)).heap.size = (V5).heap.size := by simp only [gsize_set]
    obtain ⟨VF, hVF⟩ : ∃ VF, ((((V5).setCell ⟨w.heap.size + 1, 0, none⟩ (.int .i64 pc)).setCell ⟨w.heap.size + 1, 1, none⟩ (.slice k1 4 y1)).setCell ⟨w.heap.size + 1, 2, none⟩ (.slice k2 3 y2)).setCell ⟨w.heap.size + 1, 3, none⟩ (.slice k3 4 y3) = VF := ⟨_, rfl⟩
    rw [hVF] at qF hFB hFS
    simp only [hVF] at hkeep
    have g0 := qF.at (x := 0) rfl
    have g1 := qF.at (x := 1) rfl
    have g2 := qF.at (x := 2) rfl
    have g3 := qF.at (x := 3) rfl
    have m1 := Owns.keep o1 (w' := VF) (fun t ht hS => hkeep t (by have := u1 t hS; omega))
    have m2 := Owns.keep o2 (w' := VF) (fun t ht hS => hkeep t (by have := u2 t hS; omega))
    have m3 := Owns.keep o3 (w' := VF) (fun t ht hS => hkeep t (by have := u3 t hS; omega))
    have HVF := Lib.hid hVF
    have HG := Lib.hid (given_rows (w := w) (R := ⟨pc, f1, f2, f3⟩) rfl e1 e2 e3 m1 m2 m3 (fun t hS => by have := u1 t hS; omega) (fun t hS => by have := u2 t hS; omega) (fun t hS => by have := u3 t hS; omega) d12 d13 d23 hFB)
    clear hVF hkeep m1 m2 m3 hFB hFS qF
    try clear tput
    try clear o15
    try clear o25
    try clear o35
    try clear o1
    try clear o2
    try clear o3
    try clear qX5
    try clear qR5
    try clear qB5
    try clear qO5
    try clear qX
    try clear qR
    try clear qB
    try clear qO
    try clear hB5
    try clear hB4
    try clear hB3
    try clear hB2
    try clear hB
    try clear d12
    try clear d13
    try clear d23
    try clear u1
    try clear u2
    try clear u3
    try clear tc
    try clear tf
    try clear hz5
    try clear hz4
    try clear hz3
    try clear hz2
    try clear hz1
    try clear hsV
    try clear tub
    try clear hSt
    try clear s9
    try clear hHeld
    try clear ry
    try clear rz
    try clear ry5
    try clear rz5
    try clear bdy
    try clear bdz
    try clear hrb1
    try clear hrb2
    try clear hr1
    try clear hr2
    try clear hg1
    try clear hg2
    try clear htm
    try clear hm0
    try clear hmin
    try clear hmax
    try clear htin
    try clear hj19
    try clear hjl
    try clear hp19
    try clear hknd
    try clear hnums
    try clear z0
    try clear hs5
    try clear hbt
    go_wp2
    rw [HVF.out]
    refine bodyPost_ret (v := .agg #[.int .i64 pc, .slice k1 4 y1, .slice k2 3 y2, .slice k3 4 y3]) (by simp [results, Try.results33, go_sem, g0, g1, g2, g3]) rfl ?_
    rw [HRF.out]
    exact HG.out

end Go.Proofs.Ytbohkohccnieiaa.Mach
