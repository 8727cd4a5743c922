/-
  The machine, the model: what a step needs from outside; the first state.
  Conditions: the rows lie in memory, with 2^20 numbers at most.
-/
import Derived.Test.YtbohkohccnieiaaMachS
import Derived.BigRegion
namespace Go.Proofs.Ytbohkohccnieiaa.Mach
open Go Go.RowKit Go.Proofs.Ytbohkohccnieiaa.Mem Go.Proofs.Ytbohkohccnieiaa.Gen Go.Proofs.Ytbohkohccnieiaa.Scripts

theorem can_at {l : List TOp} {P : TState} (h : canB l P = true) : scriptB l = true ∧ stateB P = true ∧ 0 ≤ P.f0 ∧ P.f0 < (l.length : Int) := by
  unfold canB at h
  simp only [Bool.and_eq_true, decide_eq_true_eq] at h
  have h2 := h.2.1
  unfold stateB inR at h2
  simp only [Bool.and_eq_true, decide_eq_true_eq] at h2
  exact ⟨h.1, h.2.1, h2.1.1, h.2.2⟩
theorem state_at {P : TState} (h : stateB P = true) : cellsB 4 P.f1 = true ∧ cellsB 3 P.f2 = true ∧ cellsB 4 P.f3 = true ∧ 0 ≤ P.f0 ∧ P.f0 ≤ 19 := by
  unfold stateB inR at h
  simp only [Bool.and_eq_true, decide_eq_true_eq] at h
  exact ⟨h.2.1, h.2.2.1, h.2.2.2, h.1.1, h.1.2⟩
theorem ok_at {l : List TOp} (h : scriptB l = true) {j : Nat} (hj : j < l.length) : okO (l.getD j nOp) = true := by
  cases ho : okO (l.getD j nOp) with
  | true => rfl
  | false => rw [scriptB_no hj ho] at h; cases h
theorem kind_at {P : TOp} (h : okO P = true) : 1 ≤ P.f0 ∧ P.f0 ≤ 9 := by
  by_cases hk : 1 ≤ P.f0 ∧ P.f0 ≤ 9
  · exact hk
  · unfold okO at h
    rw [rng_none (by omega)] at h
    cases h
/-- The ranges of a valid step's numbers. -/
theorem nums_at {P : TOp} (h : okO P = true) : (0 ≤ P.f1 ∧ P.f1 ≤ 3) ∧ (P.f0 = 1 → (1 ≤ P.f2 ∧ P.f2 ≤ 9) ∧ (0 ≤ P.f3 ∧ P.f3 ≤ 99)) ∧ (P.f0 = 5 → (0 ≤ P.f2 ∧ P.f2 ≤ 3) ∧ (0 ≤ P.f3 ∧ P.f3 ≤ 3)) ∧ (P.f0 = 6 → 0 ≤ P.f2 ∧ P.f2 ≤ 3) ∧ (P.f0 = 7 → 1 ≤ P.f2 ∧ P.f2 ≤ 3) ∧ (P.f0 = 8 → 0 ≤ P.f2 ∧ P.f2 ≤ 2) ∧ (P.f0 = 9 → 0 ≤ P.f2 ∧ P.f2 ≤ 2) := by
  obtain ⟨k, a, b, c⟩ := P
  have hk := kind_at h
  unfold okO at h
  dsimp only at h hk ⊢
  have hk2 := kinds k hk.1 hk.2
  cases hk2 <;> (simp [rng, okK, inR] at h; refine ⟨⟨by omega, by omega⟩, ?_⟩; simp; try omega)

set_option maxHeartbeats 4000000 in
set_option maxRecDepth 100000 in
theorem want_spec (lo hi : Nat) (w : World) (A : Option Addr) (c : Nat) (l : List TOp) (hl : Lies lo hi w (dOp l) (.slice A l.length c)) (hh : hi ≤ w.heap.size) (hm : l.length ≤ 1048576) (P : TState) (a1 : Option Addr) (c1 : Nat) (a2 : Option Addr) (c2 : Nat) (a3 : Option Addr) (c3 : Nat) (h : St w P a1 c1 a2 c2 a3 c3) (hm1 : P.f1.length ≤ 1048576) (hm2 : P.f2.length ≤ 1048576) (hm3 : P.f3.length ≤ 1048576) :
    Calls Try.prog 29 #[.slice A l.length c, .agg #[.int .i64 P.f0, .slice a1 P.f1.length c1, .slice a2 P.f2.length c2, .slice a3 P.f3.length c3]] w fun e w' => e = .returned (.agg #[.int .i64 (wantOf l P).f0, .int .i64 (wantOf l P).f1.f0, .int .i64 (wantOf l P).f1.f1, .int .i64 (wantOf l P).f1.f2]) ∧ Below w.heap.size w w' := by
  obtain ⟨W, hWW⟩ : ∃ Z, w.alloc (.cells #[.int .i64 P.f0, .slice a1 P.f1.length c1, .slice a2 P.f2.length c2, .slice a3 P.f3.length c3] 27) = Z := ⟨_, rfl⟩
  have hBW : Below w.heap.size w W := by rw [← hWW]; exact (Below.refl _ _).alloc (Nat.le_refl _) _
  have qB : Blk 27 w.heap.size [.int .i64 P.f0, .slice a1 P.f1.length c1, .slice a2 P.f2.length c2, .slice a3 P.f3.length c3] W := by rw [← hWW]; exact Blk.new _ [_, _, _, _] w
  obtain ⟨V, hWV⟩ : ∃ Z, W.alloc (.cells #[.int .i64 0, .int .i64 0, .int .i64 0, .int .i64 0] 34) = Z := ⟨_, rfl⟩
  have hs : W.heap.size = w.heap.size + 1 := by rw [← hWW, gsize_alloc]
  have hBV : Below W.heap.size W V := by rw [← hWV]; exact (Below.refl _ _).alloc (Nat.le_refl _) _
  have qR : Blk 34 (w.heap.size + 1) [.int .i64 0, .int .i64 0, .int .i64 0, .int .i64 0] V := by rw [← hs, ← hWV]; exact Blk.new _ [_, _, _, _] W
  have qB := qB.below hBV
  have hB : Below w.heap.size w V := hBW.trans (hBV.mono hBW.size)
  have hsV : w.heap.size + 2 ≤ V.heap.size := by have := qR.lt; omega
  have hcan := can_spec lo hi V A c l (hl.below hB) (Nat.le_trans hh hB.size) hm P a1 c1 a2 c2 a3 c3 (h.below hB) hm1 hm2 hm3
  have HW : Hid ((w.alloc (.cells #[.int .i64 P.f0, .slice a1 P.f1.length c1, .slice a2 P.f2.length c2, .slice a3 P.f3.length c3] 27)).alloc (.cells #[.int .i64 0, .int .i64 0, .int .i64 0, .int .i64 0] 34) = V) := Lib.hid (by rw [hWW, hWV])
  obtain ⟨n, hn⟩ : ∃ n, l.length = n := ⟨_, rfl⟩
  have x0 : V.cell? ⟨w.heap.size, 0, none⟩ = some (.int .i64 P.f0) := qB.at rfl
  have x1 : V.cell? ⟨w.heap.size, 1, none⟩ = some (.slice a1 P.f1.length c1) := qB.at rfl
  have x2 : V.cell? ⟨w.heap.size, 2, none⟩ = some (.slice a2 P.f2.length c2) := qB.at rfl
  have x3 : V.cell? ⟨w.heap.size, 3, none⟩ = some (.slice a3 P.f3.length c3) := qB.at rfl
  clear hWW hWV hBW hBV hs
  cases hcb : canB l P with
  | false =>
    have hw : wantOf l P = noWant := by unfold wantOf; rw [if_neg (by rw [hcb]; simp)]
    rw [hw]
    rw [hcb] at hcan
    rw [hn] at hcan ⊢
    clear hw hcb hn h hl hh hm
    go_enter Try.func29, Try.ntmps29
    go_upto_region 1 with fail
    rw [HW.out]
    go_wp2_with fail
    go_at_call 60
    refine hcan.mono ?_
    rintro e w1 ⟨rfl, hb1⟩
    have qR := qR.below hb1
    have hB1 := hB.trans (hb1.mono hB.size)
    have hs1 := hb1.size
    have z0 := qR.at (x := 0) rfl
    have z1 := qR.at (x := 1) rfl
    have z2 := qR.at (x := 2) rfl
    have z3 := qR.at (x := 3) rfl
    have d0 := qR.free 0
    have d1 := qR.free 1
    have d2 := qR.free 2
    have d3 := qR.free 3
    have qF := (((qR.set 0 (.int .i64 0)).set 1 (.int .i64 0)).set 2 (.int .i64 0)).set 3 (.int .i64 0)
    simp only [List.set_cons_zero, List.set_cons_succ] at qF
    have g0 := qF.at (x := 0) rfl
    have g1 := qF.at (x := 1) rfl
    have g2 := qF.at (x := 2) rfl
    have g3 := qF.at (x := 3) rfl
    go_wp2
    refine bodyPost_ret (v := .agg #[.int .i64 0, .int .i64 0, .int .i64 0, .int .i64 0]) (by simp [results, Try.results29, go_sem, g0, g1, g2, g3]) rfl ?_
    exact ⟨rfl, (((hB1.setCell (p := ⟨w.heap.size + 1, 0, none⟩) (by simp) _).setCell (p := ⟨w.heap.size + 1, 1, none⟩) (by simp) _).setCell (p := ⟨w.heap.size + 1, 2, none⟩) (by simp) _).setCell (p := ⟨w.heap.size + 1, 3, none⟩) (by simp) _⟩
  | true =>
    obtain ⟨hsc, hst, hp0, hpn⟩ := can_at hcb
    obtain ⟨hc1, hc2, hc3, _, _⟩ := state_at hst
    obtain ⟨j, hj⟩ : ∃ j : Nat, P.f0 = (j : Int) := ⟨P.f0.toNat, by omega⟩
    have hjl : j < l.length := by omega
    have hok := ok_at hsc hjl
    have hknd := kind_at hok
    have hnums := nums_at hok
    have hwant : wantOf l P = if asksB (l.getD j nOp).f0 = true then (if (l.getD j nOp).f0 = 1 then ⟨(l.getD j nOp).f0, ⟨(l.getD j nOp).f2, (l.getD j nOp).f3, P.f1.getD (l.getD j nOp).f1.toNat 0 % 100⟩⟩ else ⟨(l.getD j nOp).f0, ⟨0, 0, 0⟩⟩) else noWant := by
      unfold wantOf opAt
      rw [hcb, hj, Int.toNat_natCast]
      simp
    have hcop := fun (W' : World) (hb : Below w.heap.size w W') => at_Op (hl.below hb) hjl
    have hcell := fun (W' : World) (hb : Below w.heap.size w W') (i : Nat) (hi : i < P.f1.length) => ((h.r1.below hb).row'.1).cell hi
    have hcl := (cellsB_at hc1).1
    have hcg := fun (i : Nat) (hi : i < P.f1.length) => cellsB_get hc1 hi
    obtain ⟨o, ho⟩ : ∃ o, l.getD j nOp = o := ⟨_, rfl⟩
    rw [ho] at hwant hok hknd hnums hcop
    rw [hcb] at hcan
    rw [hn] at hcan hjl ⊢
    have hasks := fun W => asks_spec o.f0 W
    obtain ⟨R, hR⟩ : ∃ R, wantOf l P = R := ⟨_, rfl⟩
    rw [hR] at hwant ⊢
    have HWT := Lib.hid hwant
    obtain ⟨z0, hz0⟩ : ∃ z, P.f0 = z := ⟨_, rfl⟩
    simp only [hz0] at hcan hj HW qB x0 ⊢
    obtain ⟨n1, hn1⟩ : ∃ n, P.f1.length = n := ⟨_, rfl⟩
    have HN := Lib.hid hn
    clear hwant hR hz0 hp0 hpn hsc hst hc1 hc2 hc3 hcb ho hl hh hm h hn hm1 hm2 hm3
    subst hj
    rw [hn1] at hcl
    simp only [hn1] at hcan HW qB x1 hcell hcg ⊢
    have HN1 := Lib.hid hn1
    obtain rfl : n1 = 4 := by omega
    clear hn1 hcl
    go_enter Try.func29, Try.ntmps29
    go_upto_region 1 with fail
    rw [HW.out]
    go_wp2_with fail
    go_at_call 60
    refine hcan.mono ?_
    rintro e w1 ⟨rfl, hb1⟩
    have qB := qB.below hb1
    have qR := qR.below hb1
    have hB1 := hB.trans (hb1.mono hB.size)
    have hs1 := hb1.size
    have hcop := hcop
    obtain ⟨b, off, rfl, _, hbh, hC, _⟩ := hcop _ hB1
    obtain ⟨y0, y1, y2, y3⟩ := hC
    have x0 : w1.cell? ⟨w.heap.size, 0, none⟩ = some (.int .i64 (j : Int)) := qB.at rfl
    clear hcan
    go_wp2_with fail
    go_at_call 61
    refine (hasks _).mono ?_
    rintro e w2 ⟨rfl, rfl⟩
    cases hab : asksB o.f0 with
    | false =>
      obtain rfl : R = noWant := by have := HWT.out; rw [hab] at this; simpa using this
      clear hab
      have z0 := qR.at (x := 0) rfl
      have z1 := qR.at (x := 1) rfl
      have z2 := qR.at (x := 2) rfl
      have z3 := qR.at (x := 3) rfl
      have d0 := qR.free 0
      have d1 := qR.free 1
      have d2 := qR.free 2
      have d3 := qR.free 3
      have qF := (((qR.set 0 (.int .i64 0)).set 1 (.int .i64 0)).set 2 (.int .i64 0)).set 3 (.int .i64 0)
      simp only [List.set_cons_zero, List.set_cons_succ] at qF
      have g0 := qF.at (x := 0) rfl
      have g1 := qF.at (x := 1) rfl
      have g2 := qF.at (x := 2) rfl
      have g3 := qF.at (x := 3) rfl
      go_wp2
      refine bodyPost_ret (v := .agg #[.int .i64 0, .int .i64 0, .int .i64 0, .int .i64 0]) (by simp [results, Try.results29, go_sem, g0, g1, g2, g3]) rfl ?_
      exact ⟨rfl, (((hB1.setCell (p := ⟨w.heap.size + 1, 0, none⟩) (by simp) _).setCell (p := ⟨w.heap.size + 1, 1, none⟩) (by simp) _).setCell (p := ⟨w.heap.size + 1, 2, none⟩) (by simp) _).setCell (p := ⟨w.heap.size + 1, 3, none⟩) (by simp) _⟩
    | true =>
      have hk4 : 1 ≤ o.f0 ∧ o.f0 ≤ 4 := by unfold asksB inR at hab; simpa using hab
      have HK := Lib.hid hab
      obtain ⟨k, hk⟩ : ∃ k, o.f0 = k := ⟨_, rfl⟩
      rw [hk] at hk4 y0 hknd
      simp only [hk] at hnums
      have HKK := Lib.hid hk
      clear hab hk
      have hkk := kinds k hknd.1 hknd.2
      by_cases hk1 : k = 1
      · subst hk1
        have hw1 := HWT.out
        rw [HKK.out] at hw1
        simp only [show asksB 1 = true from rfl, if_true] at hw1
        obtain ⟨a, ha⟩ : ∃ a : Nat, o.f1 = (a : Int) := ⟨o.f1.toNat, by omega⟩
        rw [ha, Int.toNat_natCast] at hw1
        have ha4 : a < 4 := by omega
        obtain ⟨rb, roff, rfl, _, hrb, hrc⟩ := hcell _ hB1 a ha4
        have hyy := hcg a ha4
        rw [ha] at y1
        obtain ⟨y, hy⟩ : ∃ y, P.f1.getD a 0 = y := ⟨_, rfl⟩
        rw [hy] at hrc hyy hw1
        obtain ⟨m, hmm⟩ : ∃ m, y % 100 = m := ⟨_, rfl⟩
        have htm : y.tmod 100 = m := by rw [Int.tmod_eq_emod_of_nonneg hyy.1]; exact hmm
        rw [hmm] at hw1
        subst hw1
        obtain ⟨ob, hob⟩ : ∃ b, o.f2 = b := ⟨_, rfl⟩
        obtain ⟨oc, hoc⟩ : ∃ c, o.f3 = c := ⟨_, rfl⟩
        rw [hob] at y2
        rw [hoc] at y3
        have hai : (a : Int) < 4 := by omega
        have HOB := Lib.hid hob
        have HOC := Lib.hid hoc
        clear hnums hcell hcg hcop hyy hmm ha hob hoc HWT hknd
        have hB2 := hB1.alloc hB1.size (.cells #[.int .i64 1, .int .i64 (a : Int), .int .i64 ob, .int .i64 oc] 71)
        obtain ⟨V3, hV3⟩ : ∃ V3, (w1.alloc (.cells #[.int .i64 1, .int .i64 (a : Int), .int .i64 ob, .int .i64 oc] 71)).alloc (.cells #[.int .i64 1, .int .i64 0, .int .i64 0, .int .i64 0] 34) = V3 := ⟨_, rfl⟩
        have hA3 : Below w1.heap.size w1 V3 := by rw [← hV3]; exact ((Below.refl _ _).alloc (Nat.le_refl _) _).alloc (by rw [gsize_alloc]; omega) _
        have qO : Blk 71 w1.heap.size [.int .i64 1, .int .i64 (a : Int), .int .i64 ob, .int .i64 oc] V3 := by rw [← hV3]; exact (Blk.new _ [_, _, _, _] w1).alloc _
        have qW : Blk 34 (w1.heap.size + 1) [.int .i64 1, .int .i64 0, .int .i64 0, .int .i64 0] V3 := by rw [← hV3]; have q := Blk.new 34 [.int .i64 1, .int .i64 0, .int .i64 0, .int .i64 0] (w1.alloc (.cells #[.int .i64 1, .int .i64 (a : Int), .int .i64 ob, .int .i64 oc] 71)); rw [gsize_alloc] at q; exact q
        have qB := qB.below hA3
        have qR := qR.below hA3
        have hB3 := hB1.trans (hA3.mono hB1.size)
        have hs3 : w1.heap.size + 2 ≤ V3.heap.size := by have := qW.lt; omega
        have hrc3 := (Mem.cell_of_heap (hA3.block rb (Mem.cell_lt hrc))).trans hrc
        have HV3 := Lib.hid hV3
        clear hV3 hA3 hB2
        go_upto_region 6 with fail
        rw [HV3.out]
        obtain ⟨V4, hV4⟩ : ∃ V4, V3.drew = V4 := ⟨_, rfl⟩
        have hA4 : Below V3.heap.size V3 V4 := by rw [← hV4]; exact gbelow_drewN (Below.refl _ _) 1
        have hrc3 := (Mem.cell_of_heap (hA4.block rb (Mem.cell_lt hrc3))).trans hrc3
        have qO := qO.below hA4
        have qW := qW.below hA4
        have qB := qB.below hA4
        have qR := qR.below hA4
        have hB3d := hB3.trans (hA4.mono hB3.size)
        have s9 : V4.cell? ⟨w1.heap.size, 1, none⟩ = some (.int .i64 (a : Int)) ∧ V4.cell? ⟨w1.heap.size, 2, none⟩ = some (.int .i64 ob) ∧ V4.cell? ⟨w1.heap.size, 3, none⟩ = some (.int .i64 oc) ∧ V4.cell? ⟨w.heap.size, 1, none⟩ = some (.slice (some ⟨rb, roff, none⟩) 4 c1) ∧ V4.cell? ⟨rb, roff + a, none⟩ = some (.int .i64 y) := ⟨qO.at rfl, qO.at rfl, qO.at rfl, qB.at rfl, hrc3⟩
        clear hA4
        refine wp_region_held_drew (S := (fun w' => w'.cell? ⟨w1.heap.size, 1, none⟩ = some (.int .i64 (a : Int)) ∧ w'.cell? ⟨w1.heap.size, 2, none⟩ = some (.int .i64 ob) ∧ w'.cell? ⟨w1.heap.size, 3, none⟩ = some (.int .i64 oc) ∧ w'.cell? ⟨w.heap.size, 1, none⟩ = some (.slice (some ⟨rb, roff, none⟩) 4 c1) ∧ w'.cell? ⟨rb, roff + a, none⟩ = some (.int .i64 y))) (by kernel_rfl) (by rw [hV4]; exact s9) (fun hHeld => ?_)
        rw [hV4]
        clear hV4
        refine wpAnyH_take (i := 0) (v := ?vk0) (List.getElem?_toArray.trans rfl) (by kernel_rfl) (by kernel_rfl) (by kernel_rfl) (fun _ _ _ h => h) (Or.inl ⟨by rfl, ?yk0⟩) (by assumption) ?rk0
        case yk0 => (intro w hSw; (try dsimp only at hSw); go_simp; try with_reducible rfl)
        try simp only [Act.put, List.setIfInBounds_toArray, List.set_cons_zero, List.set_cons_succ]
        refine wpAnyH_take (i := 1) (v := ?vk1) (List.getElem?_toArray.trans rfl) (by kernel_rfl) (by kernel_rfl) (by kernel_rfl) (fun _ _ _ h => h) (Or.inl ⟨by rfl, ?yk1⟩) (by assumption) ?rk1
        case yk1 => (intro w hSw; (try dsimp only at hSw); go_simp; try with_reducible rfl)
        try simp only [Act.put, List.setIfInBounds_toArray, List.set_cons_zero, List.set_cons_succ]
        refine wpAnyH_take (i := 2) (v := ?vk2) (List.getElem?_toArray.trans rfl) (by kernel_rfl) (by kernel_rfl) (by kernel_rfl) (fun _ _ _ h => h) (Or.inl ⟨by rfl, ?yk2⟩) (by assumption) ?rk2
        case yk2 => (intro w hSw; (try dsimp only at hSw); go_simp; try with_reducible rfl)
        try simp only [Act.put, List.setIfInBounds_toArray, List.set_cons_zero, List.set_cons_succ]
        refine wpAnyH_take (i := 3) (v := ?vk3) (List.getElem?_toArray.trans rfl) (by kernel_rfl) (by kernel_rfl) (by kernel_rfl) (fun _ _ _ h => h) (Or.inl ⟨by rfl, ?yk3⟩) (by assumption) ?rk3
        case yk3 => (intro w hSw; (try dsimp only at hSw); go_simp; try with_reducible rfl)
        try simp only [Act.put, List.setIfInBounds_toArray, List.set_cons_zero, List.set_cons_succ]
        refine wpAnyH_take (i := 4) (v := ?vk4) (List.getElem?_toArray.trans rfl) (by kernel_rfl) (by kernel_rfl) (by kernel_rfl) (fun _ _ _ h => h) (Or.inl ⟨by rfl, ?yk4⟩) (by assumption) ?rk4
        case yk4 => (intro w hSw; (try dsimp only at hSw); go_simp; try with_reducible rfl)
        try simp only [Act.put, List.setIfInBounds_toArray, List.set_cons_zero, List.set_cons_succ]
        refine wpAnyH_take (i := 5) (v := ?vk5) (List.getElem?_toArray.trans rfl) (by kernel_rfl) (by kernel_rfl) (by kernel_rfl) (fun _ _ _ h => h) (Or.inl ⟨by rfl, ?yk5⟩) (by assumption) ?rk5
        case yk5 => (intro w hSw; (try dsimp only at hSw); go_simp; try with_reducible rfl)
        try simp only [Act.put, List.setIfInBounds_toArray, List.set_cons_zero, List.set_cons_succ]
        refine wpAnyH_take (i := 6) (v := ?vk6) (List.getElem?_toArray.trans rfl) (by kernel_rfl) (by kernel_rfl) (by kernel_rfl) (fun _ _ _ h => h) (Or.inl ⟨by rfl, ?yk6⟩) (by assumption) ?rk6
        case yk6 => (intro w hSw; (try dsimp only at hSw); go_simp; try with_reducible rfl)
        try simp only [Act.put, List.setIfInBounds_toArray, List.set_cons_zero, List.set_cons_succ]
        refine wpAnyH_take (i := 7) (v := ?vk7) (List.getElem?_toArray.trans rfl) (by kernel_rfl) (by kernel_rfl) (by kernel_rfl) (fun _ _ _ h => h) (Or.inl ⟨by rfl, ?yk7⟩) (by assumption) ?rk7
        case yk7 => (intro w hSw; (try dsimp only at hSw); go_simp; try with_reducible rfl)
        try simp only [Act.put, List.setIfInBounds_toArray, List.set_cons_zero, List.set_cons_succ]
        refine wpAnyH_take (i := 8) (v := ?vk8) (List.getElem?_toArray.trans rfl) (by kernel_rfl) (by kernel_rfl) (by kernel_rfl) (fun _ _ _ h => h) (Or.inl ⟨by rfl, ?yk8⟩) (by assumption) ?rk8
        case yk8 => (intro w hSw; (try dsimp only at hSw); go_simp; try with_reducible rfl)
        try simp only [Act.put, List.setIfInBounds_toArray, List.set_cons_zero, List.set_cons_succ]
        refine wpAnyH_take (i := 9) (v := ?vk9) (List.getElem?_toArray.trans rfl) (by kernel_rfl) (by kernel_rfl) (by kernel_rfl) (fun _ _ _ h => h) (Or.inl ⟨by rfl, ?yk9⟩) (by assumption) ?rk9
        case yk9 => (intro w hSw; (try dsimp only at hSw); go_simp; try with_reducible rfl)
        try simp only [Act.put, List.setIfInBounds_toArray, List.set_cons_zero, List.set_cons_succ]
        refine wpAnyH_take (i := 10) (v := ?vk10) (List.getElem?_toArray.trans rfl) (by kernel_rfl) (by kernel_rfl) (by kernel_rfl) (fun _ _ _ h => h) (Or.inl ⟨by rfl, ?yk10⟩) (by assumption) ?rk10
        case yk10 => (intro w hSw; (try dsimp only at hSw); go_simp; try with_reducible rfl)
        try simp only [Act.put, List.setIfInBounds_toArray, List.set_cons_zero, List.set_cons_succ]
        refine wpAnyH_take (i := 11) (v := ?vk11) (List.getElem?_toArray.trans rfl) (by kernel_rfl) (by kernel_rfl) (by kernel_rfl) (fun _ _ _ h => h) (Or.inl ⟨by rfl, ?yk11⟩) (by assumption) ?rk11
        case yk11 => (intro w hSw; (try dsimp only at hSw); go_simp; try with_reducible rfl)
        try simp only [Act.put, List.setIfInBounds_toArray, List.set_cons_zero, List.set_cons_succ]
        refine wpAnyH_take (i := 12) (v := ?vk12) (List.getElem?_toArray.trans rfl) (by kernel_rfl) (by kernel_rfl) (by kernel_rfl) (fun _ _ _ h => h) (Or.inl ⟨by rfl, ?yk12⟩) (by assumption) ?rk12
        case yk12 => (intro w hSw; (try dsimp only at hSw); go_simp; try with_reducible rfl)
        try simp only [Act.put, List.setIfInBounds_toArray, List.set_cons_zero, List.set_cons_succ]
        refine wpAnyH_ready (rs := [13]) (by kernel_rfl) (by simp) ?_
        refine AllReadyH.cons (List.getElem?_toArray.trans rfl) (fun K hK => ?_) AllReadyH.nil
        have z1 := qW.at (x := 1) rfl
        have z2 := qW.at (x := 2) rfl
        have z3 := qW.at (x := 3) rfl
        have d1 := qW.free 1
        have d2 := qW.free 2
        have d3 := qW.free 3
        have qW2 := ((qW.set 1 (.int .i64 ob)).set 2 (.int .i64 oc)).set 3 (.int .i64 m)
        simp only [List.set_cons_zero, List.set_cons_succ] at qW2
        have qO2 := (((qO.other (a := ⟨w1.heap.size + 1, 1, none⟩) (.int .i64 ob) (by dsimp only; omega)).other (a := ⟨w1.heap.size + 1, 2, none⟩) (.int .i64 oc) (by dsimp only; omega)).other (a := ⟨w1.heap.size + 1, 3, none⟩) (.int .i64 m) (by dsimp only; omega))
        have qB2 := (((qB.other (a := ⟨w1.heap.size + 1, 1, none⟩) (.int .i64 ob) (by dsimp only; omega)).other (a := ⟨w1.heap.size + 1, 2, none⟩) (.int .i64 oc) (by dsimp only; omega)).other (a := ⟨w1.heap.size + 1, 3, none⟩) (.int .i64 m) (by dsimp only; omega))
        have qR2 := (((qR.other (a := ⟨w1.heap.size + 1, 1, none⟩) (.int .i64 ob) (by dsimp only; omega)).other (a := ⟨w1.heap.size + 1, 2, none⟩) (.int .i64 oc) (by dsimp only; omega)).other (a := ⟨w1.heap.size + 1, 3, none⟩) (.int .i64 m) (by dsimp only; omega))
        have hB4 := ((hB3d.setCell (p := ⟨w1.heap.size + 1, 1, none⟩) (by dsimp only; omega) (.int .i64 ob)).setCell (p := ⟨w1.heap.size + 1, 2, none⟩) (by dsimp only; omega) (.int .i64 oc)).setCell (p := ⟨w1.heap.size + 1, 3, none⟩) (by dsimp only; omega) (.int .i64 m)
        have hr4 : (((V4.setCell ⟨w1.heap.size + 1, 1, none⟩ (.int .i64 ob)).setCell ⟨w1.heap.size + 1, 2, none⟩ (.int .i64 oc)).setCell ⟨w1.heap.size + 1, 3, none⟩ (.int .i64 m)).cell? ⟨rb, roff + a, none⟩ = some (.int .i64 y) := by
          rw [World.cell?_setCell_far _ _ _ _ (by dsimp only; omega), World.cell?_setCell_far _ _ _ _ (by dsimp only; omega), World.cell?_setCell_far _ _ _ _ (by dsimp only; omega)]
          exact hrc3
        go_simp
        obtain ⟨V5, hV5⟩ : ∃ V5, ((V4.setCell ⟨w1.heap.size + 1, 1, none⟩ (.int .i64 ob)).setCell ⟨w1.heap.size + 1, 2, none⟩ (.int .i64 oc)).setCell ⟨w1.heap.size + 1, 3, none⟩ (.int .i64 m) = V5 := ⟨_, rfl⟩
        rw [hV5] at qW2 qO2 qB2 qR2 hB4 hr4 ⊢
        have s9 : V5.cell? ⟨w1.heap.size, 1, none⟩ = some (.int .i64 (a : Int)) ∧ V5.cell? ⟨w1.heap.size, 2, none⟩ = some (.int .i64 ob) ∧ V5.cell? ⟨w1.heap.size, 3, none⟩ = some (.int .i64 oc) ∧ V5.cell? ⟨w.heap.size, 1, none⟩ = some (.slice (some ⟨rb, roff, none⟩) 4 c1) ∧ V5.cell? ⟨rb, roff + a, none⟩ = some (.int .i64 y) := ⟨qO2.at rfl, qO2.at rfl, qO2.at rfl, qB2.at rfl, hr4⟩
        refine hK.out _ _ s9 (fun hHeld => ?_)
        clear hK K
        try simp only [Act.put, List.setIfInBounds_toArray, List.set_cons_zero, List.set_cons_succ]
        refine wpAnyH_done (by kernel_rfl) ?_ _
        have z0 := qR2.at (x := 0) rfl
        have z1 := qR2.at (x := 1) rfl
        have z2 := qR2.at (x := 2) rfl
        have z3 := qR2.at (x := 3) rfl
        have d0 := qR2.free 0
        have d1 := qR2.free 1
        have d2 := qR2.free 2
        have d3 := qR2.free 3
        have u0 := qW2.at (x := 0) rfl
        have u1 := qW2.at (x := 1) rfl
        have u2 := qW2.at (x := 2) rfl
        have u3 := qW2.at (x := 3) rfl
        have qF := (((qR2.set 0 (.int .i64 1)).set 1 (.int .i64 ob)).set 2 (.int .i64 oc)).set 3 (.int .i64 m)
        simp only [List.set_cons_zero, List.set_cons_succ] at qF
        have g0 := qF.at (x := 0) rfl
        have g1 := qF.at (x := 1) rfl
        have g2 := qF.at (x := 2) rfl
        have g3 := qF.at (x := 3) rfl
        go_wp2
        refine bodyPost_ret (v := .agg #[.int .i64 1, .int .i64 ob, .int .i64 oc, .int .i64 m]) (by simp [results, Try.results29, go_sem, g0, g1, g2, g3]) rfl ?_
        exact ⟨by first | rfl | (rw [HKK.out]; done) | (rw [HOB.out, HOC.out]; done) | (rw [HKK.out, HOB.out, HOC.out]), (((hB4.setCell (p := ⟨w.heap.size + 1, 0, none⟩) (by simp) _).setCell (p := ⟨w.heap.size + 1, 1, none⟩) (by simp) _).setCell (p := ⟨w.heap.size + 1, 2, none⟩) (by simp) _).setCell (p := ⟨w.heap.size + 1, 3, none⟩) (by simp) _⟩
      · have hw1 := HWT.out
        rw [HKK.out] at hw1
        have hak := HK.out
        rw [HKK.out] at hak
        rw [hak] at hw1
        simp only [if_true, if_neg hk1] at hw1
        subst hw1
        clear hnums hcell hcg hcop HWT hak
        obtain ⟨oa, hoa⟩ : ∃ b, o.f1 = b := ⟨_, rfl⟩
        obtain ⟨ob, hob⟩ : ∃ b, o.f2 = b := ⟨_, rfl⟩
        obtain ⟨oc, hoc⟩ : ∃ c, o.f3 = c := ⟨_, rfl⟩
        rw [hoa] at y1
        rw [hob] at y2
        rw [hoc] at y3
        clear hoa hob hoc
        have hk1' : (k == 1) = false := by simpa using hk1
        obtain ⟨V3, hV3⟩ : ∃ V3, (w1.alloc (.cells #[.int .i64 k, .int .i64 oa, .int .i64 ob, .int .i64 oc] 71)).alloc (.cells #[.int .i64 k, .int .i64 0, .int .i64 0, .int .i64 0] 34) = V3 := ⟨_, rfl⟩
        have hA3 : Below w1.heap.size w1 V3 := by rw [← hV3]; exact ((Below.refl _ _).alloc (Nat.le_refl _) _).alloc (by rw [gsize_alloc]; omega) _
        have qO : Blk 71 w1.heap.size [.int .i64 k, .int .i64 oa, .int .i64 ob, .int .i64 oc] V3 := by rw [← hV3]; exact (Blk.new _ [_, _, _, _] w1).alloc _
        have qW : Blk 34 (w1.heap.size + 1) [.int .i64 k, .int .i64 0, .int .i64 0, .int .i64 0] V3 := by rw [← hV3]; have q := Blk.new 34 [.int .i64 k, .int .i64 0, .int .i64 0, .int .i64 0] (w1.alloc (.cells #[.int .i64 k, .int .i64 oa, .int .i64 ob, .int .i64 oc] 71)); rw [gsize_alloc] at q; exact q
        have qB := qB.below hA3
        have qR := qR.below hA3
        have hB3 := hB1.trans (hA3.mono hB1.size)
        have hs3 : w1.heap.size + 2 ≤ V3.heap.size := by have := qW.lt; omega
        have HV3 := Lib.hid hV3
        clear hV3 hA3
        go_upto_region 5 with fail
        rw [HV3.out]
        have w0 := qO.at (x := 0) rfl
        have z0 := qR.at (x := 0) rfl
        have z1 := qR.at (x := 1) rfl
        have z2 := qR.at (x := 2) rfl
        have z3 := qR.at (x := 3) rfl
        have d0 := qR.free 0
        have d1 := qR.free 1
        have d2 := qR.free 2
        have d3 := qR.free 3
        have u0 := qW.at (x := 0) rfl
        have u1 := qW.at (x := 1) rfl
        have u2 := qW.at (x := 2) rfl
        have u3 := qW.at (x := 3) rfl
        have qF := (((qR.set 0 (.int .i64 k)).set 1 (.int .i64 0)).set 2 (.int .i64 0)).set 3 (.int .i64 0)
        simp only [List.set_cons_zero, List.set_cons_succ] at qF
        have g0 := qF.at (x := 0) rfl
        have g1 := qF.at (x := 1) rfl
        have g2 := qF.at (x := 2) rfl
        have g3 := qF.at (x := 3) rfl
        go_wp2
        refine bodyPost_ret (v := .agg #[.int .i64 k, .int .i64 0, .int .i64 0, .int .i64 0]) (by simp [results, Try.results29, go_sem, g0, g1, g2, g3]) rfl ?_
        exact ⟨by first | rfl | (rw [HKK.out]; done) | (rw [HOB.out, HOC.out]; done) | (rw [HKK.out, HOB.out, HOC.out]), (((hB3.setCell (p := ⟨w.heap.size + 1, 0, none⟩) (by simp) _).setCell (p := ⟨w.heap.size + 1, 1, none⟩) (by simp) _).setCell (p := ⟨w.heap.size + 1, 2, none⟩) (by simp) _).setCell (p := ⟨w.heap.size + 1, 3, none⟩) (by simp) _⟩

end Go.Proofs.Ytbohkohccnieiaa.Mach
