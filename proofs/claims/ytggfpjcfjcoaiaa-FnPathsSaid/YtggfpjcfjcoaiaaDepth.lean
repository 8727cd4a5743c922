/-
  DepthOf, of the program (through climb, with a function that counts) and of the model.
  Conditions: none.
-/
import Derived.Test.YtggfpjcfjcoaiaaRootI
namespace Go.Proofs.Ytggfpjcfjcoaiaa.Tre
open Go Go.RowKit Go.Proofs.Ytggfpjcfjcoaiaa.Mem Go.Proofs.Ytggfpjcfjcoaiaa.Hsh
set_option linter.unusedVariables false

/-- How many steps lead to the element i of n; -1 where there is none. -/
def depthOf (n i : Int) : Int := if 0 ≤ i ∧ i < n ∧ n ≤ 1000 then (dep n.toNat i.toNat : Int) else -1
theorem depthOf_out {n i : Int} (h : i < 0 ∨ n ≤ i ∨ 1000 < n) : depthOf n i = -1 := by unfold depthOf; rw [if_neg (by omega)]
theorem depthOf_in {n i : Int} (h0 : 0 ≤ i) (h1 : i < n) (h2 : n ≤ 1000) : depthOf n i = (dep n.toNat i.toNat : Int) := by unfold depthOf; rw [if_pos ⟨h0, h1, h2⟩]

set_option maxHeartbeats 1000000 in
set_option maxRecDepth 100000 in
theorem depthOther (B n I : Nat) (hn : n ≤ 1000) :
    Beside Try.prog 33 #[.pointer (some ⟨B, 0, none⟩)] (steps 0 n I) (fun _ => 0) (fun j D w => (∀ i, D i ↔ i = B) ∧ w.heap[B]? = some (.cells #[.int .i64 j] 3 (0, 0))) := by
  refine ⟨enters_of Try.func33 (by kernel_rfl) rfl, fun _ => WalkArith.wf_i64 (by simp), ?_, fun j D w w' h hb => ⟨h.1, by rw [hb.block _ (Array.getElem?_eq_some_iff.1 h.2).1]; exact h.2⟩, fun j D w h i hi => by rw [(h.1 i).1 hi]; exact (Array.getElem?_eq_some_iff.1 h.2).1⟩
  rintro j x y _ _ D w hs rfl rfl ⟨hD, hH⟩
  have hj : j < 1000 := by
    have := (List.getElem?_eq_some_iff.1 hs).1
    rw [steps_length] at this
    have := dep_at n I
    omega
  have c0 : w.cell? ⟨B, 0, none⟩ = some (.int .i64 j) := by simp [World.cell?, hH]
  have f0 := frozen_of_row w B 0 _ _ hH
  have hF : (w.setCell ⟨B, 0, none⟩ (.int .i64 ((j + 1 : Nat) : Int))).heap[B]? = some (.cells #[.int .i64 ((j + 1 : Nat) : Int)] 3 (0, 0)) := by
    have := heap_setCell_same w B 0 _ _ (.int .i64 ((j + 1 : Nat) : Int)) hH
    simpa using this
  have hSp : Spared D w (w.setCell ⟨B, 0, none⟩ (.int .i64 ((j + 1 : Nat) : Int))) := ⟨rfl, rfl, rfl, by simp, fun k _ hk => heap_setCell_other _ _ _ _ (fun e => hk ((hD k).2 e))⟩
  have e1 : ((j + 1 : Nat) : Int) = (j : Int) + 1 := by omega
  rw [e1] at hF hSp
  show Calls _ _ #[_, _, _] _ _
  go_enter Try.func33, Try.ntmps33
  go_wp2
  go_ret
  exact ⟨rfl, D, ⟨hD, by rw [e1]; exact hF⟩, hSp, fun i hi => .inl hi⟩

set_option maxHeartbeats 1000000 in
set_option maxRecDepth 100000 in
theorem depth_out (n i : Int) (w : World) (h : i < 0 ∨ n ≤ i ∨ 1000 < n) :
    Calls Try.prog 12 #[.int .i64 n, .int .i64 i] w fun e w' => e = .returned (.int .i64 (-1)) ∧ Below w.heap.size w w' := by
  by_cases h0 : i < 0
  · go_enter Try.func12, Try.ntmps12
    go_wp2_with fail
    go_ret
    exact ⟨rfl, by repeat' (first | exact Below.refl _ _ | assumption | refine Below.setCell ?_ ?_ _ | refine Below.alloc ?_ ?_ _ | refine Adr.below_drewN ?_ _ | refine Below.drew ?_ | exact Nat.le_refl _ | omega | (dsimp only; omega) | refine Adr.le_alloc ?_ | refine Adr.le_set ?_ | refine Adr.le_drewN ?_ | refine Adr.le_drew ?_)⟩
  · have d0 : decide (i < 0) = false := by simpa using h0
    by_cases h1 : n ≤ i
    · have d1 : decide (n ≤ i) = true := by simpa using h1
      clear h h0
      go_enter Try.func12, Try.ntmps12
      go_wp2_with fail
      go_ret
      exact ⟨rfl, by repeat' (first | exact Below.refl _ _ | assumption | refine Below.setCell ?_ ?_ _ | refine Below.alloc ?_ ?_ _ | refine Adr.below_drewN ?_ _ | refine Below.drew ?_ | exact Nat.le_refl _ | omega | (dsimp only; omega) | refine Adr.le_alloc ?_ | refine Adr.le_set ?_ | refine Adr.le_drewN ?_ | refine Adr.le_drew ?_)⟩
    · have d1 : decide (n ≤ i) = false := by simpa using h1
      have d2 : decide (1000 < n) = true := by simp; omega
      clear h h0 h1
      go_enter Try.func12, Try.ntmps12
      go_wp2_with fail
      go_ret
      exact ⟨rfl, by repeat' (first | exact Below.refl _ _ | assumption | refine Below.setCell ?_ ?_ _ | refine Below.alloc ?_ ?_ _ | refine Adr.below_drewN ?_ _ | refine Below.drew ?_ | exact Nat.le_refl _ | omega | (dsimp only; omega) | refine Adr.le_alloc ?_ | refine Adr.le_set ?_ | refine Adr.le_drewN ?_ | refine Adr.le_drew ?_)⟩

set_option maxHeartbeats 1000000 in
set_option maxRecDepth 100000 in
theorem depth_in (n I : Nat) (w : World) (h : I < n) (hn : n ≤ 1000) :
    Calls Try.prog 12 #[.int .i64 n, .int .i64 I] w fun e w' => e = .returned (.int .i64 (dep n I)) ∧ Below w.heap.size w w' := by
  have hmf : ∀ (fn : Fn) (first cap : Array Value) (w : World), (Instr.makeFunc fn first cap).run Try.prog w = .ok (.func fn first cap) w := fun _ _ _ _ => rfl
  have hB : Below w.heap.size w (w.alloc (.cells #[.int .i64 0] 3)) := by repeat' (first | exact Below.refl _ _ | assumption | refine Below.setCell ?_ ?_ _ | refine Below.alloc ?_ ?_ _ | refine Adr.below_drewN ?_ _ | refine Below.drew ?_ | exact Nat.le_refl _ | omega | (dsimp only; omega) | refine Adr.le_alloc ?_ | refine Adr.le_set ?_ | refine Adr.le_drewN ?_ | refine Adr.le_drew ?_)
  have hcl := climb_any 33 #[.pointer (some ⟨w.heap.size, 0, none⟩)] n I _ _ (depthOther w.heap.size n I hn) 0 I (WalkArith.wf_i64 (by simp)) (fun i => i = w.heap.size) (w.alloc (.cells #[.int .i64 0] 3)) (by omega) (by omega) (by omega) rfl ⟨fun _ => Iff.rfl, heap_alloc_new w _⟩
  have d0 : decide ((I : Int) < 0) = false := by simp
  have d1 : decide ((n : Int) ≤ (I : Int)) = false := by simp; omega
  have d2 : decide (1000 < (n : Int)) = false := by simp; omega
  obtain ⟨r, hrr⟩ : ∃ r, Hid (climbed n I 0 (fun j => 0) = r) := ⟨_, rfl⟩
  rw [hrr.out] at hcl
  go_enter Try.func12, Try.ntmps12
  go_wp2_with fail
  go_at_call 30
  refine hcl.mono ?_
  rintro e w9 ⟨rfl, D9, ⟨hD9, hH9⟩, hp9, hE9⟩
  have c0 : w9.cell? ⟨w.heap.size, 0, none⟩ = some (.int .i64 (dep n I)) := by simp [World.cell?, hH9]
  go_wp2
  go_ret
  exact ⟨rfl, hB.trans (hp9.below hB.size (fun i hi => by omega))⟩
theorem depth_impl (n i : Int) (w : World) :
    Calls Try.prog 12 #[.int .i64 n, .int .i64 i] w fun e w' => e = .returned (.int .i64 (depthOf n i)) ∧ Below w.heap.size w w' := by
  by_cases h : i < 0 ∨ n ≤ i ∨ 1000 < n
  · rw [depthOf_out h]; exact depth_out n i w h
  · rw [depthOf_in (by omega) (by omega) (by omega)]
    have := depth_in n.toNat i.toNat w (by omega) (by omega)
    rw [show ((n.toNat : Nat) : Int) = n by omega, show ((i.toNat : Nat) : Int) = i by omega] at this
    exact this

/-! The model. -/
set_option maxHeartbeats 1000000 in
set_option maxRecDepth 100000 in
theorem depthS_out (n i : Int) (w : World) (wn : (Lit.int .i64 n).wf = true) (h : i < 0 ∨ n ≤ i ∨ 1000 < n) :
    Calls Try.prog 45 #[.int .i64 n, .int .i64 i] w fun e w' => e = .returned (.int .i64 (-1)) ∧ w = w' := by
  by_cases h0 : n < 1
  · go_enter Try.func45, Try.ntmps45
    go_wp2_with fail
    go_ret
    exact ⟨rfl, rfl⟩
  · have d0 : decide (n < 1) = false := by simpa using h0
    by_cases h1 : 1000 < n
    · have d1 : decide (1000 < n) = true := by simpa using h1
      clear h h0
      go_enter Try.func45, Try.ntmps45
      go_wp2_with fail
      go_ret
      exact ⟨rfl, rfl⟩
    · have d1 : decide (1000 < n) = false := by simpa using h1
      have hC := Range.l1_no i 0 (n - 1) w (by omega)
      have n1 : 1 ≤ n := by omega
      have n2 : n ≤ 1000 := by omega
      clear h h0 h1
      go_enter Try.func45, Try.ntmps45
      go_wp2_with (go_at_call 44; refine hC.mono ?_; rintro e w1 ⟨rfl, rfl⟩)
      go_ret
      exact ⟨rfl, rfl⟩

set_option maxHeartbeats 2000000 in
set_option maxRecDepth 100000 in
theorem depthS_in (n I : Nat) (w : World) (h : I < n) (hn : n ≤ 1000) :
    Calls Try.prog 45 #[.int .i64 n, .int .i64 I] w fun e w' => e = .returned (.int .i64 (dep n I)) ∧ w = w' := by
  have d0 : decide ((n : Int) < 1) = false := by simp; omega
  have d1 : decide (1000 < (n : Int)) = false := by simp; omega
  have hC := Range.l1_yes I 0 ((n : Int) - 1) w (by omega) (by omega)
  have HD := Lib.hid (dep_at n I)
  obtain ⟨q, hq⟩ : ∃ q, Hid (dep n I = q) := ⟨_, rfl⟩
  rw [hq.out] at HD ⊢
  go_enter Try.func45, Try.ntmps45
  go_wp2_with (go_at_call 44; refine hC.mono ?_; rintro e w1 ⟨rfl, rfl⟩)
  go_loopw [0, 1, 5] (fun N J d wr => ∃ (m r k : Nat), N = .int .i64 m ∧ J = .int .i64 r ∧ d = .int .i64 k ∧ 1 ≤ m ∧ m ≤ 1000 ∧ r < m ∧ k ≤ 1000 ∧ Hid (k + dep m r = q) ∧ wr = w) (fun N _ _ _ => (intOf N).toNat)
  case atStart => exact ⟨n, I, 0, rfl, rfl, rfl, by omega, hn, h, by omega, Lib.hid (by rw [hq.out]; omega), rfl⟩
  case round =>
    obtain ⟨m, r, k, rfl, rfl, rfl, m1, m2, hr, hk, HQ, rfl⟩ := hrel
    by_cases hm : 1 < m
    · have dm : decide (1 < (m : Int)) = true := by simp; omega
      obtain ⟨z, hz⟩ : ∃ z, Hid ((m + 1) / 2 = z) := ⟨_, rfl⟩
      have hq2 : ((m : Int) + 1).tdiv 2 = (z : Int) := by rw [Int.tdiv_eq_ediv_of_nonneg (by omega), ← hz.out]; omega
      have z0 : 0 < z := by have := hz.out; omega
      have z1 : z < m := by have := hz.out; omega
      by_cases hrz : r < z
      · have dr : decide ((r : Int) < (z : Int)) = true := by simp; omega
        have HQ2 := Lib.hid (show k + 1 + dep z r = q by have h1 := dep_left (n := m) (r := r) (by omega) (by rw [hz.out]; exact hrz); rw [hz.out] at h1; have h2 := HQ.out; omega)
        have hk2 : k + 1 ≤ 1000 := by have := HQ2.out; have := HD.out; omega
        clear HQ hz
        go_wp2
        go_roundw
        case rel => exact ⟨z, r, k + 1, by go_num, by go_num, by go_num, by omega, by omega, hrz, hk2, HQ2, trivial⟩
        case measure => simp [intOf]; omega
      · have dr : decide ((r : Int) < (z : Int)) = false := by simp; omega
        have HQ2 := Lib.hid (show k + 1 + dep (m - z) (r - z) = q by have h1 := dep_right (n := m) (r := r) (by omega) (by rw [hz.out]; exact hrz); rw [hz.out] at h1; have h2 := HQ.out; omega)
        have hk2 : k + 1 ≤ 1000 := by have := HQ2.out; have := HD.out; omega
        clear HQ hz
        go_wp2
        go_roundw
        case rel => exact ⟨m - z, r - z, k + 1, by congr 1; omega, by congr 1; omega, by go_num, by omega, by omega, by omega, hk2, HQ2, trivial⟩
        case measure => simp [intOf]; omega
    · have dm : decide (1 < (m : Int)) = false := by simp; omega
      have HE := Lib.hid (show k = q by rw [← HQ.out, dep_small (by omega)]; omega)
      go_wp2
      go_ret
      rw [HE.out]
      exact ⟨rfl, rfl⟩
theorem depth_spec (n i : Int) (w : World) (wn : (Lit.int .i64 n).wf = true) :
    Calls Try.prog 45 #[.int .i64 n, .int .i64 i] w fun e w' => e = .returned (.int .i64 (depthOf n i)) ∧ w = w' := by
  by_cases h : i < 0 ∨ n ≤ i ∨ 1000 < n
  · rw [depthOf_out h]; exact depthS_out n i w wn h
  · rw [depthOf_in (by omega) (by omega) (by omega)]
    have := depthS_in n.toNat i.toNat w (by omega) (by omega)
    rw [show ((n.toNat : Nat) : Int) = n by omega, show ((i.toNat : Nat) : Int) = i by omega] at this
    exact this
end Go.Proofs.Ytggfpjcfjcoaiaa.Tre
