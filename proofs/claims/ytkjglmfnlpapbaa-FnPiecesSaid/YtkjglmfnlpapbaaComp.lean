/-
  Two cursors that run toward each other over two bodies: the program's comparison.
  Conditions: the bodies lie in memory, apart from the comparison; at most 100 numbers each.
-/
import Derived.Test.YtkjglmfnlpapbaaPieceMath
import Derived.Test.YtkjglmfnlpapbaaQuad
import Derived.Test.YtkjglmfnlpapbaaMinMax
import Derived.Test.YtkjglmfnlpapbaaInts
import Derived.Lib.OthersKept
import Derived.Deep.QuietTactic
import Derived.BigQuiet
import Derived.Deep.CutBlock
import Derived.Deep.DeepCutAuto
import Derived.Deep.RegionHeld3
namespace Go.Proofs.Ytkjglmfnlpapbaa.Pieces
open Go Go.RowKit Go.Proofs.Ytkjglmfnlpapbaa.Mem Go.Proofs.Ytkjglmfnlpapbaa.Adr Go.Proofs.Ytkjglmfnlpapbaa.Res Go.Proofs.Ytkjglmfnlpapbaa.MinMax

/-- The comparison in block b: both bodies, and how many numbers each cursor has passed. -/
abbrev Comp (b : Nat) (A : Option Addr) (n c : Nat) (B : Option Addr) (m d : Nat) (j e : Nat) (w : World) : Prop :=
  Quad 50 b (.slice A n c) (.slice B m d) (.int .i64 j) (.int .i64 e) w

theorem four_below {b : Nat} {x0 x1 x2 x3 : Value} {w w' : World} (hb : Below w.heap.size w w')
    (h : w.cell? ⟨b, 0, none⟩ = some x0 ∧ w.cell? ⟨b, 1, none⟩ = some x1 ∧ w.cell? ⟨b, 2, none⟩ = some x2 ∧ w.cell? ⟨b, 3, none⟩ = some x3) :
    w'.cell? ⟨b, 0, none⟩ = some x0 ∧ w'.cell? ⟨b, 1, none⟩ = some x1 ∧ w'.cell? ⟨b, 2, none⟩ = some x2 ∧ w'.cell? ⟨b, 3, none⟩ = some x3 := by
  have e := hb.block b (Mem.cell_lt h.1)
  rw [Mem.cell_of_heap e, Mem.cell_of_heap e, Mem.cell_of_heap e, Mem.cell_of_heap e]
  exact h

set_option maxHeartbeats 1600000 in
set_option maxRecDepth 100000 in
theorem met_impl (b : Nat) (A : Option Addr) (n c : Nat) (B : Option Addr) (m d : Nat) (j e : Nat) (w : World) (q : Comp b A n c B m d j e w) (hn : n ≤ 100) (h1 : j + e ≤ n) (h2 : j + e ≤ m) (r : Bool) (hr : r = decide (¬ (j + e < n ∧ j + e < m))) :
    Calls Try.prog 46 #[.pointer (some ⟨b, 0, none⟩)] w fun en w' => en = .returned (.bool r) ∧ Below w.heap.size w w' := by
  obtain ⟨M, hM⟩ : ∃ M : Int, ((n : Int) < m ∧ M = n) ∨ ((m : Int) ≤ n ∧ M = m) := by
    by_cases h : (n : Int) < m
    · exact ⟨n, .inl ⟨h, rfl⟩⟩
    · exact ⟨m, .inr ⟨by omega, rfl⟩⟩
  have hr2 : ((j : Int) + (e : Int) == M) = r := by
    subst hr
    rw [Bool.eq_iff_iff]
    simp only [beq_iff_eq, decide_eq_true_eq]
    omega
  have w1 : IntKind.wrap .i64 ((j : Int) + (e : Int)) = (j : Int) + (e : Int) := by rw [IntKind.wrap_i64]; omega
  have HM := Lib.hid hM
  have bB : Below w.heap.size w w.drew := (Below.refl _ _).drew
  have s3 := q.drew.cells
  clear hr h1 h2 hn hM q
  go_enter Try.func46, Try.ntmps46
  go_wp2
  go_region_held3 (fun w' => w'.cell? ⟨b, 0, none⟩ = some (.slice A n c) ∧ w'.cell? ⟨b, 1, none⟩ = some (.slice B m d) ∧ w'.cell? ⟨b, 2, none⟩ = some (.int .i64 j) ∧ w'.cell? ⟨b, 3, none⟩ = some (.int .i64 e))
    (first | exact s3 | assumption | go_keep)
    (first | (go_at_call 47; refine (min_impl _ _ M _ HM.out).mono ?_; rintro e w3 ⟨rfl, hb3⟩; have s3 := four_below hb3 (by assumption); have bB : Below w.heap.size w w3 := (by first | exact bB.trans (hb3.mono bB.size) | exact bB.drew.trans (hb3.mono bB.size))))
  all_goals
    go_wp2
    go_ret
    exact ⟨rfl, bB⟩

set_option maxHeartbeats 1600000 in
set_option maxRecDepth 100000 in
theorem step_met (r : Int) (b : Nat) (A : Option Addr) (n c : Nat) (B : Option Addr) (m d : Nat) (j e : Nat) (w : World) (q : Comp b A n c B m d j e w) (hn : n ≤ 100) (h1 : j + e ≤ n) (h2 : j + e ≤ m) (h3 : ¬ (j + e < n ∧ j + e < m)) :
    Calls Try.prog 41 #[.pointer (some ⟨b, 0, none⟩), .int .i32 r] w fun en w' => en = .returned (.bool false) ∧ Zone b (b + 1) w w' ∧ Comp b A n c B m d j e w' := by
  have hmet := met_impl b A n c B m d j e w q hn h1 h2 true (by simp; omega)
  clear hn h1 h2 h3
  go_enter Try.func41, Try.ntmps41
  go_wp2_with fail
  go_at_call 46
  refine hmet.mono ?_
  rintro en w1 ⟨rfl, hb1⟩
  go_wp2
  go_ret
  exact ⟨rfl, Zone.of_below hb1, Quad.below q hb1⟩

set_option maxHeartbeats 1600000 in
set_option maxRecDepth 100000 in
theorem fore_yes (lo hi lo2 hi2 : Nat) (b : Nat) (A : Option Addr) (n c : Nat) (B : Option Addr) (m d : Nat) (j e : Nat) (xs ys : List Int) (w : World) (q : Comp b A n c B m d j e w) (hx : Row .i64 lo hi w A n xs) (hy : Row .i64 lo2 hi2 w B m ys) (hn : n ≤ 100) (_ : m ≤ 100) (h1 : j + e < n) (h2 : j + e < m) (h3 : xs.getD (j) 0 = ys.getD (j) 0) :
    Calls Try.prog 41 #[.pointer (some ⟨b, 0, none⟩), .int .i32 62] w fun en w' => en = .returned (.bool true) ∧ Zone b (b + 1) w w' ∧ Comp b A n c B m d (j + 1) e w' := by
  obtain ⟨b1, o1, ea, _, _, x0⟩ := hx.cell (j := j) (by omega)
  obtain ⟨b2, o2, eb, _, _, y0⟩ := hy.cell (j := j) (by omega)
  have t3 : (xs.getD (j) 0 == ys.getD (j) 0) = true := by rw [h3]; exact beq_self_eq_true _
  have hmet := met_impl b A n c B m d j e w q hn (by omega) (by omega) false (by simp; omega)
  subst ea eb
  obtain ⟨X, hXX⟩ : ∃ X, xs.getD (j) 0 = X := ⟨_, rfl⟩
  obtain ⟨Y, hYY⟩ : ∃ Y, ys.getD (j) 0 = Y := ⟨_, rfl⟩
  rw [hXX, hYY] at t3
  rw [hXX] at x0
  rw [hYY] at y0
  have g1 : (j : Int) < (n : Int) := by omega
  have g2 : (j : Int) < (m : Int) := by omega
  have wj : IntKind.wrap .i64 ((j : Int) + 1) = (j : Int) + 1 := by rw [IntKind.wrap_i64]; omega
  clear hXX hYY h3 hx hy hn
  go_enter Try.func41, Try.ntmps41
  go_wp2_with fail
  go_at_call 46
  refine hmet.mono ?_
  rintro en w1 ⟨rfl, hb1⟩
  have q1 : Comp b _ n c _ m d j e w1 := Quad.below q hb1
  obtain ⟨c0, c1, c2, c3⟩ := q1.cells
  obtain ⟨f0, f1, f2, f3⟩ := q1.frozen
  rw [← Mem.cell_of_heap (hb1.block _ (Mem.cell_lt x0))] at x0
  rw [← Mem.cell_of_heap (hb1.block _ (Mem.cell_lt y0))] at y0
  clear hmet q
  go_upto_region 5 with fail
  go_quiet (fail)
  go_wp2
  go_ret
  refine ⟨rfl, ((Zone.of_below hb1).drewN _).setCell ⟨Nat.le_refl _, Nat.lt_succ_self _⟩ _, ?_⟩
  exact Quad.set2 (Quad.drewN q1 _) (.int .i64 ((j : Int) + 1))

set_option maxHeartbeats 1600000 in
set_option maxRecDepth 100000 in
theorem fore_no (lo hi lo2 hi2 : Nat) (b : Nat) (A : Option Addr) (n c : Nat) (B : Option Addr) (m d : Nat) (j e : Nat) (xs ys : List Int) (w : World) (q : Comp b A n c B m d j e w) (hx : Row .i64 lo hi w A n xs) (hy : Row .i64 lo2 hi2 w B m ys) (hn : n ≤ 100) (_ : m ≤ 100) (h1 : j + e < n) (h2 : j + e < m) (h3 : xs.getD (j) 0 ≠ ys.getD (j) 0) :
    Calls Try.prog 41 #[.pointer (some ⟨b, 0, none⟩), .int .i32 62] w fun en w' => en = .returned (.bool false) ∧ Zone b (b + 1) w w' ∧ Comp b A n c B m d j e w' := by
  obtain ⟨b1, o1, ea, _, _, x0⟩ := hx.cell (j := j) (by omega)
  obtain ⟨b2, o2, eb, _, _, y0⟩ := hy.cell (j := j) (by omega)
  have t3 : (xs.getD (j) 0 == ys.getD (j) 0) = false := by exact beq_false_of_ne h3
  have hmet := met_impl b A n c B m d j e w q hn (by omega) (by omega) false (by simp; omega)
  subst ea eb
  obtain ⟨X, hXX⟩ : ∃ X, xs.getD (j) 0 = X := ⟨_, rfl⟩
  obtain ⟨Y, hYY⟩ : ∃ Y, ys.getD (j) 0 = Y := ⟨_, rfl⟩
  rw [hXX, hYY] at t3
  rw [hXX] at x0
  rw [hYY] at y0
  have g1 : (j : Int) < (n : Int) := by omega
  have g2 : (j : Int) < (m : Int) := by omega
  have wj : IntKind.wrap .i64 ((j : Int) + 1) = (j : Int) + 1 := by rw [IntKind.wrap_i64]; omega
  clear hXX hYY h3 hx hy hn
  go_enter Try.func41, Try.ntmps41
  go_wp2_with fail
  go_at_call 46
  refine hmet.mono ?_
  rintro en w1 ⟨rfl, hb1⟩
  have q1 : Comp b _ n c _ m d j e w1 := Quad.below q hb1
  obtain ⟨c0, c1, c2, c3⟩ := q1.cells
  obtain ⟨f0, f1, f2, f3⟩ := q1.frozen
  rw [← Mem.cell_of_heap (hb1.block _ (Mem.cell_lt x0))] at x0
  rw [← Mem.cell_of_heap (hb1.block _ (Mem.cell_lt y0))] at y0
  clear hmet q
  go_upto_region 5 with fail
  go_quiet (fail)
  go_wp2
  go_ret
  exact ⟨rfl, (Zone.of_below hb1).drewN _, Quad.drewN q1 _⟩

set_option maxHeartbeats 1600000 in
set_option maxRecDepth 100000 in
theorem aft_yes (lo hi lo2 hi2 : Nat) (b : Nat) (A : Option Addr) (n c : Nat) (B : Option Addr) (m d : Nat) (j e : Nat) (xs ys : List Int) (w : World) (q : Comp b A n c B m d j e w) (hx : Row .i64 lo hi w A n xs) (hy : Row .i64 lo2 hi2 w B m ys) (hn : n ≤ 100) (hm : m ≤ 100) (h1 : j + e < n) (h2 : j + e < m) (h3 : xs.getD (n - 1 - e) 0 = ys.getD (m - 1 - e) 0) :
    Calls Try.prog 41 #[.pointer (some ⟨b, 0, none⟩), .int .i32 60] w fun en w' => en = .returned (.bool true) ∧ Zone b (b + 1) w w' ∧ Comp b A n c B m d j (e + 1) w' := by
  obtain ⟨b1, o1, ea, _, _, x0⟩ := hx.cell (j := n - 1 - e) (by omega)
  obtain ⟨b2, o2, eb, _, _, y0⟩ := hy.cell (j := m - 1 - e) (by omega)
  have t3 : (xs.getD (n - 1 - e) 0 == ys.getD (m - 1 - e) 0) = true := by rw [h3]; exact beq_self_eq_true _
  have hmet := met_impl b A n c B m d j e w q hn (by omega) (by omega) false (by simp; omega)
  subst ea eb
  obtain ⟨X, hXX⟩ : ∃ X, xs.getD (n - 1 - e) 0 = X := ⟨_, rfl⟩
  obtain ⟨Y, hYY⟩ : ∃ Y, ys.getD (m - 1 - e) 0 = Y := ⟨_, rfl⟩
  rw [hXX, hYY] at t3
  rw [hXX] at x0
  rw [hYY] at y0
  have g1 : (n : Int) - 1 - (e : Int) < (n : Int) := by omega
  have g2 : (m : Int) - 1 - (e : Int) < (m : Int) := by omega
  have w1 : IntKind.wrap .i64 ((n : Int) - 1) = (n : Int) - 1 := by rw [IntKind.wrap_i64]; omega
  have w2 : IntKind.wrap .i64 ((n : Int) - 1 - (e : Int)) = (n : Int) - 1 - (e : Int) := by rw [IntKind.wrap_i64]; omega
  have w3 : IntKind.wrap .i64 ((m : Int) - 1) = (m : Int) - 1 := by rw [IntKind.wrap_i64]; omega
  have w4 : IntKind.wrap .i64 ((m : Int) - 1 - (e : Int)) = (m : Int) - 1 - (e : Int) := by rw [IntKind.wrap_i64]; omega
  have g3 : 0 ≤ (n : Int) - 1 - (e : Int) := by omega
  have g4 : 0 ≤ (m : Int) - 1 - (e : Int) := by omega
  have g5 : ((n : Int) - 1 - (e : Int)).toNat = n - 1 - e := by omega
  have g6 : ((m : Int) - 1 - (e : Int)).toNat = m - 1 - e := by omega
  have wj : IntKind.wrap .i64 ((e : Int) + 1) = (e : Int) + 1 := by rw [IntKind.wrap_i64]; omega
  clear hXX hYY h3 hx hy hn hm
  go_enter Try.func41, Try.ntmps41
  go_wp2_with fail
  go_at_call 46
  refine hmet.mono ?_
  rintro en w1 ⟨rfl, hb1⟩
  have q1 : Comp b _ n c _ m d j e w1 := Quad.below q hb1
  obtain ⟨c0, c1, c2, c3⟩ := q1.cells
  obtain ⟨f0, f1, f2, f3⟩ := q1.frozen
  rw [← Mem.cell_of_heap (hb1.block _ (Mem.cell_lt x0))] at x0
  rw [← Mem.cell_of_heap (hb1.block _ (Mem.cell_lt y0))] at y0
  clear hmet q
  go_upto_region 9 with fail
  go_quiet (fail)
  go_wp2
  go_ret
  refine ⟨rfl, ((Zone.of_below hb1).drewN _).setCell ⟨Nat.le_refl _, Nat.lt_succ_self _⟩ _, ?_⟩
  exact Quad.set3 (Quad.drewN q1 _) (.int .i64 ((e : Int) + 1))

set_option maxHeartbeats 1600000 in
set_option maxRecDepth 100000 in
theorem aft_no (lo hi lo2 hi2 : Nat) (b : Nat) (A : Option Addr) (n c : Nat) (B : Option Addr) (m d : Nat) (j e : Nat) (xs ys : List Int) (w : World) (q : Comp b A n c B m d j e w) (hx : Row .i64 lo hi w A n xs) (hy : Row .i64 lo2 hi2 w B m ys) (hn : n ≤ 100) (hm : m ≤ 100) (h1 : j + e < n) (h2 : j + e < m) (h3 : xs.getD (n - 1 - e) 0 ≠ ys.getD (m - 1 - e) 0) :
    Calls Try.prog 41 #[.pointer (some ⟨b, 0, none⟩), .int .i32 60] w fun en w' => en = .returned (.bool false) ∧ Zone b (b + 1) w w' ∧ Comp b A n c B m d j e w' := by
  obtain ⟨b1, o1, ea, _, _, x0⟩ := hx.cell (j := n - 1 - e) (by omega)
  obtain ⟨b2, o2, eb, _, _, y0⟩ := hy.cell (j := m - 1 - e) (by omega)
  have t3 : (xs.getD (n - 1 - e) 0 == ys.getD (m - 1 - e) 0) = false := by exact beq_false_of_ne h3
  have hmet := met_impl b A n c B m d j e w q hn (by omega) (by omega) false (by simp; omega)
  subst ea eb
  obtain ⟨X, hXX⟩ : ∃ X, xs.getD (n - 1 - e) 0 = X := ⟨_, rfl⟩
  obtain ⟨Y, hYY⟩ : ∃ Y, ys.getD (m - 1 - e) 0 = Y := ⟨_, rfl⟩
  rw [hXX, hYY] at t3
  rw [hXX] at x0
  rw [hYY] at y0
  have g1 : (n : Int) - 1 - (e : Int) < (n : Int) := by omega
  have g2 : (m : Int) - 1 - (e : Int) < (m : Int) := by omega
  have w1 : IntKind.wrap .i64 ((n : Int) - 1) = (n : Int) - 1 := by rw [IntKind.wrap_i64]; omega
  have w2 : IntKind.wrap .i64 ((n : Int) - 1 - (e : Int)) = (n : Int) - 1 - (e : Int) := by rw [IntKind.wrap_i64]; omega
  have w3 : IntKind.wrap .i64 ((m : Int) - 1) = (m : Int) - 1 := by rw [IntKind.wrap_i64]; omega
  have w4 : IntKind.wrap .i64 ((m : Int) - 1 - (e : Int)) = (m : Int) - 1 - (e : Int) := by rw [IntKind.wrap_i64]; omega
  have g3 : 0 ≤ (n : Int) - 1 - (e : Int) := by omega
  have g4 : 0 ≤ (m : Int) - 1 - (e : Int) := by omega
  have g5 : ((n : Int) - 1 - (e : Int)).toNat = n - 1 - e := by omega
  have g6 : ((m : Int) - 1 - (e : Int)).toNat = m - 1 - e := by omega
  have wj : IntKind.wrap .i64 ((e : Int) + 1) = (e : Int) + 1 := by rw [IntKind.wrap_i64]; omega
  clear hXX hYY h3 hx hy hn hm
  go_enter Try.func41, Try.ntmps41
  go_wp2_with fail
  go_at_call 46
  refine hmet.mono ?_
  rintro en w1 ⟨rfl, hb1⟩
  have q1 : Comp b _ n c _ m d j e w1 := Quad.below q hb1
  obtain ⟨c0, c1, c2, c3⟩ := q1.cells
  obtain ⟨f0, f1, f2, f3⟩ := q1.frozen
  rw [← Mem.cell_of_heap (hb1.block _ (Mem.cell_lt x0))] at x0
  rw [← Mem.cell_of_heap (hb1.block _ (Mem.cell_lt y0))] at y0
  clear hmet q
  go_upto_region 9 with fail
  go_quiet (fail)
  go_wp2
  go_ret
  exact ⟨rfl, (Zone.of_below hb1).drewN _, Quad.drewN q1 _⟩

theorem fore_stop (lo hi lo2 hi2 : Nat) (b : Nat) (A : Option Addr) (n c : Nat) (B : Option Addr) (m d : Nat) (j e : Nat) (xs ys : List Int) (w : World) (q : Comp b A n c B m d j e w) (hx : Row .i64 lo hi w A n xs) (hy : Row .i64 lo2 hi2 w B m ys) (hn : n ≤ 100) (hm : m ≤ 100) (k1 : j + e ≤ n) (k2 : j + e ≤ m) (h : ¬ (j + e < n ∧ j + e < m ∧ xs.getD (j) 0 = ys.getD (j) 0)) :
    Calls Try.prog 41 #[.pointer (some ⟨b, 0, none⟩), .int .i32 62] w fun en w' => en = .returned (.bool false) ∧ Zone b (b + 1) w w' ∧ Comp b A n c B m d j e w' := by
  by_cases h1 : j + e < n ∧ j + e < m
  · exact fore_no lo hi lo2 hi2 b A n c B m d j e xs ys w q hx hy hn hm h1.1 h1.2 (fun he => h ⟨h1.1, h1.2, he⟩)
  · exact step_met _ b A n c B m d j e w q hn k1 k2 h1

theorem aft_stop (lo hi lo2 hi2 : Nat) (b : Nat) (A : Option Addr) (n c : Nat) (B : Option Addr) (m d : Nat) (j e : Nat) (xs ys : List Int) (w : World) (q : Comp b A n c B m d j e w) (hx : Row .i64 lo hi w A n xs) (hy : Row .i64 lo2 hi2 w B m ys) (hn : n ≤ 100) (hm : m ≤ 100) (k1 : j + e ≤ n) (k2 : j + e ≤ m) (h : ¬ (j + e < n ∧ j + e < m ∧ xs.getD (n - 1 - e) 0 = ys.getD (m - 1 - e) 0)) :
    Calls Try.prog 41 #[.pointer (some ⟨b, 0, none⟩), .int .i32 60] w fun en w' => en = .returned (.bool false) ∧ Zone b (b + 1) w w' ∧ Comp b A n c B m d j e w' := by
  by_cases h1 : j + e < n ∧ j + e < m
  · exact aft_no lo hi lo2 hi2 b A n c B m d j e xs ys w q hx hy hn hm h1.1 h1.2 (fun he => h ⟨h1.1, h1.2, he⟩)
  · exact step_met _ b A n c B m d j e w q hn k1 k2 h1

theorem zone_iterAt {lo hi k pos : Nat} {w w' : World} {s : ByteArray} (h : Zone lo hi w w') (hk : w.heap.size ≤ k) : Zone lo hi w (w'.iterAt k s pos) :=
  ⟨h.os, h.tape, h.output, by rw [Lib.iterAt_size]; exact h.size, fun i hi hd => by rw [Lib.iterAt_other _ _ _ _ _ (by omega)]; exact h.block i hi hd⟩
/-- How many numbers a cursor of the comparison has passed, as the block says. -/
def passed (w : World) (b o : Nat) : Nat := (Go.RowKit.intOf ((w.cell? ⟨b, o, none⟩).getD (.bool false))).toNat
theorem passed_of {w : World} {b o j : Nat} (h : w.cell? ⟨b, o, none⟩ = some (.int .i64 (j : Int))) : passed w b o = j := by
  unfold passed
  rw [h]
  simp [Go.RowKit.intOf]
end Go.Proofs.Ytkjglmfnlpapbaa.Pieces
