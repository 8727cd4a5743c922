/-
  CheckPath of the model: the way up from a digest, along the numbers of a path.
  Conditions: the path lies in memory, at most 2^40 numbers.
-/
import Derived.Test.YtggfpjcfjcoaiaaCheckI
namespace Go.Proofs.Ytggfpjcfjcoaiaa.Tre
open Go Go.RowKit Go.Proofs.Ytggfpjcfjcoaiaa.Mem Go.Proofs.Ytggfpjcfjcoaiaa.Hsh
set_option linter.unusedVariables false

theorem row_take {k : IntKind} {lo hi n p b off : Nat} {w : World} {zs : List Int} (h : Row k lo hi w (some ⟨b, off, none⟩) n zs) (hp : p ≤ n) : Row k lo hi w (some ⟨b, off, none⟩) p (zs.take p) := by
  have h1 := row_part h (x := 0) (y := p) (Nat.zero_le _) hp
  have e1 : part zs 0 p = zs.take p := by simp [part]
  rw [e1] at h1
  exact h1
theorem climbed_take {n I p : Nat} {d : Int} {ps : List Int} (h : dep n I = p) : climbed n I d (fun j => (ps.take p).getD j 0) = climbed n I d (fun j => ps.getD j 0) :=
  climbed_like n n I d _ _ (Nat.le_refl _) fun j hj => by
    rw [List.getD_eq_getElem?_getD, List.getD_eq_getElem?_getD, List.getElem?_take_of_lt (by omega)]

set_option maxHeartbeats 2000000 in
set_option maxRecDepth 100000 in
theorem l6_any (k : Nat) : ∀ (n I m c lo hi : Nat) (x y d : Int) (w : World) (a : Option Addr) (ps : List Int), n ≤ k → I < n → n ≤ 1000 → x = n → y = I → dep n I = m → Row .i64 lo hi w a m ps → m ≤ c → c ≤ maxLen → (Lit.int .i64 d).wf = true →
    Calls Try.prog 46 #[.int .i64 x, .int .i64 y, .int .i64 d, .slice a m c] w fun e w' => e = .returned (.int .i64 (climbed n I d (fun j => ps.getD j 0))) ∧ Below w.heap.size w w' := by
  induction k with
  | zero => intro n I m c lo hi x y d w a ps h h0; omega
  | succ k ih =>
    intro n I m c lo hi x y d w a ps h h0 hn hx hy hd hr hc hm wd
    by_cases h1 : n ≤ 1
    · have e1 : decide (x < 2) = true := by simp; omega
      rw [climbed_small h1]
      clear ih hr
      go_enter Try.func46, Try.ntmps46
      go_wp2_with fail
      go_ret
      exact ⟨rfl, Below.refl _ _⟩
    · have e1 : decide (x < 2) = false := by simp; omega
      obtain ⟨z, hz⟩ : ∃ z, Hid ((n + 1) / 2 = z) := ⟨_, rfl⟩
      have hq : (x + 1).tdiv 2 = (z : Int) := by rw [Int.tdiv_eq_ediv_of_nonneg (by omega), hx, ← hz.out]; omega
      have hzb : 0 < z ∧ z < n := by have := hz.out; omega
      obtain ⟨z0, z1⟩ := hzb
      have hm1000 : m ≤ 1000 := by have := dep_at n I; omega
      by_cases hrz : I < z
      · have hr' : I < (n + 1) / 2 := by rw [hz.out]; exact hrz
        have e2 : decide (y < (z : Int)) = true := by simp; omega
        rw [climbed_left h1 hr', hz.out]
        rw [dep_left h1 hr', hz.out] at hd
        obtain ⟨p, hp⟩ : ∃ p, dep z I = p := ⟨_, rfl⟩
        rw [hp] at hd ⊢
        obtain ⟨b, off, rfl, _, _, hcell⟩ := hr.cell (j := p) (by omega)
        have ih1 := ih z I p c lo hi z y d w _ _ (by omega) hrz (by omega) rfl hy hp (row_take hr (by omega)) (by omega) hm wd
        rw [climbed_take hp] at ih1
        have wA := climbed_wf z z I d (fun j => ps.getD j 0) (Nat.le_refl _) wd
        have wB := wf_getD hr.wf p
        obtain ⟨s, hs⟩ : ∃ s, Hid (climbed z I d (fun j => ps.getD j 0) = s) := ⟨_, rfl⟩
        obtain ⟨t, ht⟩ : ∃ t, Hid (ps.getD p 0 = t) := ⟨_, rfl⟩
        rw [hs.out] at ih1 wA ⊢
        rw [ht.out] at hcell wB ⊢
        have em : (m : Int) - 1 = (p : Int) := by omega
        have hpm : p < m := by omega
        have hpc : p ≤ c := by omega
        have x0 : 0 ≤ x := by omega
        have x1 : x ≤ 1000 := by omega
        have y0 : 0 ≤ y := by omega
        have y1 : y ≤ 1000 := by omega
        clear ih hr h1 hz hr' hd hp h h0 hx hy
        go_enter Try.func46, Try.ntmps46
        go_wp2_with fail
        go_at_call 46
        refine ih1.mono ?_
        rintro e w1 ⟨rfl, hb1⟩
        go_wp2_with fail
        go_at_call 38
        refine (hash_spec _ _ _ _ 2 2 [s, t] (two_row s t _ wA wB) (by omega)).mono ?_
        rintro e w2 ⟨rfl, rfl⟩
        go_wp2
        go_ret
        exact ⟨rfl, hb1.alloc hb1.size _⟩
      · have hr' : ¬ I < (n + 1) / 2 := by rw [hz.out]; exact hrz
        have e2 : decide (y < (z : Int)) = false := by simp; omega
        rw [climbed_right h1 hr', hz.out]
        rw [dep_right h1 hr', hz.out] at hd
        obtain ⟨p, hp⟩ : ∃ p, dep (n - z) (I - z) = p := ⟨_, rfl⟩
        rw [hp] at hd ⊢
        obtain ⟨b, off, rfl, _, _, hcell⟩ := hr.cell (j := p) (by omega)
        have ih1 := ih (n - z) (I - z) p c lo hi (x - z) (y - z) d w _ _ (by omega) (by omega) (by omega) (by omega) (by omega) hp (row_take hr (by omega)) (by omega) hm wd
        rw [climbed_take hp] at ih1
        have wA := climbed_wf (n - z) (n - z) (I - z) d (fun j => ps.getD j 0) (Nat.le_refl _) wd
        have wB := wf_getD hr.wf p
        obtain ⟨s, hs⟩ : ∃ s, Hid (climbed (n - z) (I - z) d (fun j => ps.getD j 0) = s) := ⟨_, rfl⟩
        obtain ⟨t, ht⟩ : ∃ t, Hid (ps.getD p 0 = t) := ⟨_, rfl⟩
        rw [hs.out] at ih1 wA ⊢
        rw [ht.out] at hcell wB ⊢
        have em : (m : Int) - 1 = (p : Int) := by omega
        have hpm : p < m := by omega
        have hpc : p ≤ c := by omega
        have x0 : 0 ≤ x := by omega
        have x1 : x ≤ 1000 := by omega
        have y0 : 0 ≤ y := by omega
        have y1 : y ≤ 1000 := by omega
        clear ih hr h1 hz hr' hd hp h h0 hx hy
        go_enter Try.func46, Try.ntmps46
        go_wp2_with fail
        go_at_call 46
        refine ih1.mono ?_
        rintro e w1 ⟨rfl, hb1⟩
        go_wp2_with fail
        go_at_call 38
        refine (hash_spec _ _ _ _ 2 2 [t, s] (two_row t s _ wB wA) (by omega)).mono ?_
        rintro e w2 ⟨rfl, rfl⟩
        go_wp2
        go_ret
        exact ⟨rfl, hb1.alloc hb1.size _⟩

set_option maxHeartbeats 1000000 in
set_option maxRecDepth 100000 in
theorem checkS_no (m c : Nat) (rt n i d : Int) (w : World) (a : Option Addr) (wn : (Lit.int .i64 n).wf = true) (hm : m ≤ 1099511627776) (h : depthOf n i ≠ m) :
    Calls Try.prog 26 #[.int .i64 rt, .int .i64 n, .int .i64 i, .int .i64 d, .slice a m c] w fun e w' => e = .returned (.bool false) ∧ Below w.heap.size w w' := by
  have hD := fun W => depth_spec n i W wn
  obtain ⟨q, hq⟩ : ∃ q, Hid (depthOf n i = q) := ⟨_, rfl⟩
  rw [hq.out] at hD h
  have e1 : (q == (m : Int)) = false := by simp; omega
  clear h
  by_cases h0 : 0 ≤ q
  · have e0 : decide (0 ≤ q) = true := by simpa using h0
    go_enter Try.func26, Try.ntmps26
    go_wp2_with fail
    go_at_call 45
    refine (hD _).mono ?_
    rintro e w1 ⟨rfl, rfl⟩
    go_wp2_with fail
    go_ret
    exact ⟨rfl, Below.refl _ _⟩
  · have e0 : decide (0 ≤ q) = false := by simp; omega
    go_enter Try.func26, Try.ntmps26
    go_wp2_with fail
    go_at_call 45
    refine (hD _).mono ?_
    rintro e w1 ⟨rfl, rfl⟩
    go_wp2_with fail
    go_ret
    exact ⟨rfl, Below.refl _ _⟩

set_option maxHeartbeats 1000000 in
set_option maxRecDepth 100000 in
theorem checkS_at (lo hi m c n I : Nat) (rt d : Int) (w : World) (a : Option Addr) (ps : List Int) (hr : Row .i64 lo hi w a m ps) (hc : m ≤ c) (hm : c ≤ maxLen) (hI : I < n) (hn : n ≤ 1000) (h : dep n I = m) (wd : (Lit.int .i64 d).wf = true) :
    Calls Try.prog 26 #[.int .i64 rt, .int .i64 n, .int .i64 I, .int .i64 d, .slice a m c] w fun e w' => e = .returned (.bool (climbed n I d (fun j => ps.getD j 0) == rt)) ∧ Below w.heap.size w w' := by
  have hD := fun W => depthS_in n I W hI hn
  rw [h] at hD
  have hL := l6_any n n I m c lo hi n I d w a ps (Nat.le_refl _) hI hn rfl rfl h hr hc hm wd
  obtain ⟨r, hrr⟩ : ∃ r, Hid (climbed n I d (fun j => ps.getD j 0) = r) := ⟨_, rfl⟩
  rw [hrr.out] at hL ⊢
  have e0 : decide (0 ≤ (m : Int)) = true := by simp
  have e1 : ((m : Int) == (m : Int)) = true := by simp
  clear hr
  go_enter Try.func26, Try.ntmps26
  go_wp2_with fail
  go_at_call 45
  refine (hD _).mono ?_
  rintro e w1 ⟨rfl, rfl⟩
  go_wp2_with fail
  go_at_call 46
  refine hL.mono ?_
  rintro e w2 ⟨rfl, hb2⟩
  go_wp2
  go_ret
  exact ⟨rfl, hb2⟩

theorem check_spec (lo hi m c : Nat) (rt n i d : Int) (w : World) (a : Option Addr) (ps : List Int) (hr : Row .i64 lo hi w a m ps) (hc : m ≤ c) (hm : c ≤ maxLen) (hm2 : m ≤ 1099511627776) (wn : (Lit.int .i64 n).wf = true) (wd : (Lit.int .i64 d).wf = true) :
    Calls Try.prog 26 #[.int .i64 rt, .int .i64 n, .int .i64 i, .int .i64 d, .slice a m c] w fun e w' => e = .returned (.bool (okPath rt n i d ps)) ∧ Below w.heap.size w w' := by
  have hl := hr.len
  by_cases h : depthOf n i = m
  · rw [okPath_at (by rw [hl]; exact h)]
    obtain ⟨N, I, rfl, rfl, hI, hN, hd⟩ := depthOf_some (n := n) (i := i) (by omega)
    exact checkS_at lo hi m c N I rt d w a ps hr hc hm hI hN (by omega) wd
  · rw [okPath_no (by rw [hl]; exact h)]
    exact checkS_no m c rt n i d w a wn hm2 h
end Go.Proofs.Ytggfpjcfjcoaiaa.Tre
