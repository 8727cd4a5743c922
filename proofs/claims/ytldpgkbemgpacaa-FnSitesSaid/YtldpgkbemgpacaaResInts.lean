/-
  ResourceInts, of the program and of the model: five numbers, then the body's; EqualResources, of both.
  Conditions: the body is a row in memory, of at most 2^40 numbers.
-/
import Derived.Test.YtldpgkbemgpacaaRes
import Derived.Test.YtldpgkbemgpacaaEqI
import Derived.Deep.RegionHeld3
namespace Go.Proofs.Ytldpgkbemgpacaa.Res
open Go Go.RowKit Go.Proofs.Ytldpgkbemgpacaa.Mem Go.Proofs.Ytldpgkbemgpacaa.Adr

/-- A resource's numbers. -/
def nums (k h p q : Int) (n : Nat) (zs : List Int) : List Int := [k, h, p, q, (n : Int)] ++ zs
theorem nums_len {k h p q : Int} {n : Nat} {zs : List Int} (h0 : zs.length = n) : (nums k h p q n zs).length = 5 + n := by simp [nums, h0]; omega
theorem nums_inj {k h p q k' h' p' q' : Int} {n n' : Nat} {zs zs' : List Int} (h0 : zs.length = n) (h1 : zs'.length = n') : (nums k h p q n zs = nums k' h' p' q' n' zs') ↔ (k = k' ∧ (h = h' ∧ p = p' ∧ q = q') ∧ zs = zs') := by
  unfold nums
  simp only [List.cons_append, List.nil_append, List.cons.injEq]
  constructor
  · rintro ⟨rfl, rfl, rfl, rfl, _, rfl⟩; exact ⟨rfl, ⟨rfl, rfl, rfl⟩, rfl⟩
  · rintro ⟨rfl, ⟨rfl, rfl, rfl⟩, rfl⟩; exact ⟨rfl, rfl, rfl, rfl, by rw [← h0, ← h1], rfl⟩
def Wf (z : Int) : Prop := (Lit.int .i64 z).wf = true

set_option maxHeartbeats 800000 in
set_option maxRecDepth 100000 in
theorem ints_impl (lo hi : Nat) (k h p q : Int) (w : World) (a : Option Addr) (n c : Nat) (zs : List Int) (hr : Row .i64 lo hi w a n zs) (hn : n ≤ 1099511627776) (wk : Wf k) (wh : Wf h) (wp : Wf p) (wq : Wf q) :
    Calls Try.prog 45 #[(Value.agg #[Value.int IntKind.i64 (k), Value.slice (a) (n) (c), Value.int IntKind.i64 (h), Value.int IntKind.i64 (p), Value.int IntKind.i64 (q)])] w (Slice .i64 w.heap.size (5 + n) (nums k h p q n zs) w) := by
  obtain ⟨i0, hi0, hz0, hz1, hz2⟩ := info_parts Nts.info
  have hB1 : Below w.heap.size w ((w.alloc (.cells #[.int .i64 k, .slice a n c, .int .i64 h, .int .i64 p, .int .i64 q] 31)).alloc (.cells #[.int .i64 k, .int .i64 h, .int .i64 p, .int .i64 q, .int .i64 n] 3)) := by repeat' (first | exact Below.refl _ _ | assumption | refine Below.setCell ?_ ?_ _ | refine Below.alloc ?_ ?_ _ | refine Adr.below_drewN ?_ _ | refine Below.drew ?_ | exact Nat.le_refl _ | omega | (dsimp only; omega) | refine Adr.le_alloc ?_ | refine Adr.le_set ?_ | refine Adr.le_drewN ?_ | refine Adr.le_drew ?_)
  have hr1 := hr.below hB1
  have hs := OwnI.lit .i64 3 (base := w.heap.size) (w.alloc (.cells #[.int .i64 k, .slice a n c, .int .i64 h, .int .i64 p, .int .i64 q] 31)) [k, h, p, q, (n : Int)] (by rw [size_alloc]; omega) (by unfold maxLen; simp)
  simp only [List.map_cons, List.map_nil, List.length_cons, List.length_nil, Nat.zero_add, Nat.reduceAdd, size_alloc] at hs
  have wall : ∀ z ∈ nums k h p q n zs, (Lit.int .i64 z).wf = true := by
    intro z hz
    simp only [nums, List.cons_append, List.nil_append, List.mem_cons] at hz
    rcases hz with rfl | rfl | rfl | rfl | rfl | hz
    · exact wk
    · exact wh
    · exact wp
    · exact wq
    · exact WalkArith.wf_i64 (by omega)
    · exact hr.wf z hz
  clear hr
  go_enter Try.func45, Try.ntmps45
  go_wp2_with (at_builtin; refine wpList_append_row rfl _ _ 29 rfl w.heap.size 3 i0 _ 8 Try.underlying29 hi0 hz0 hz1 hz2 rfl _ 5 [k, h, p, q, (n : Int)] rfl hs lo hi a n c zs rfl hr1 ?c1 ?c2 ?c3 ?_; (case c1 => unfold maxLen; omega); (case c2 => omega); (case c3 => exact hB1.size); intro v2 w2 ho2 hb2)
  obtain ⟨a2, c2, rfl, h1, h2, h3⟩ := ho2.own wall
  go_ret
  exact ⟨a2, c2, rfl, h3, h1, h2, hB1.trans hb2⟩

set_option maxHeartbeats 2000000 in
set_option maxRecDepth 100000 in
set_option linter.unusedVariables false in
theorem same_impl (l0 u0 l1 u1 : Nat) (k h p q k1 h1 p1 q1 : Int) (w : World) (a b : Option Addr) (n c m d : Nat) (xs ys : List Int) (ra : Row .i64 l0 u0 w a n xs) (rb : Row .i64 l1 u1 w b m ys) (hn : n ≤ 1048576) (hm : m ≤ 1048576) (wk : Wf k) (wh : Wf h) (wp : Wf p) (wq : Wf q) (wk1 : Wf k1) (wh1 : Wf h1) (wp1 : Wf p1) (wq1 : Wf q1) :
    Calls Try.prog 13 #[(Value.agg #[Value.int IntKind.i64 (k), Value.slice (a) (n) (c), Value.int IntKind.i64 (h), Value.int IntKind.i64 (p), Value.int IntKind.i64 (q)]), (Value.agg #[Value.int IntKind.i64 (k1), Value.slice (b) (m) (d), Value.int IntKind.i64 (h1), Value.int IntKind.i64 (p1), Value.int IntKind.i64 (q1)])] w fun e w' => e = .returned (.bool (decide (nums k h p q n xs = nums k1 h1 p1 q1 m ys))) ∧ Below w.heap.size w w' := by
  have hB : Below w.heap.size w ((w.alloc (.cells #[.int .i64 k, .slice a n c, .int .i64 h, .int .i64 p, .int .i64 q] 31)).alloc (.cells #[.int .i64 k1, .slice b m d, .int .i64 h1, .int .i64 p1, .int .i64 q1] 31)) := by repeat' (first | exact Below.refl _ _ | assumption | refine Below.setCell ?_ ?_ _ | refine Below.alloc ?_ ?_ _ | refine Adr.below_drewN ?_ _ | refine Below.drew ?_ | exact Nat.le_refl _ | omega | (dsimp only; omega) | refine Adr.le_alloc ?_ | refine Adr.le_set ?_ | refine Adr.le_drewN ?_ | refine Adr.le_drew ?_)
  have QA : Quint 31 w.heap.size (.int .i64 k) (.slice a n c) (.int .i64 h) (.int .i64 p) (.int .i64 q) ((w.alloc (.cells #[.int .i64 k, .slice a n c, .int .i64 h, .int .i64 p, .int .i64 q] 31)).alloc (.cells #[.int .i64 k1, .slice b m d, .int .i64 h1, .int .i64 p1, .int .i64 q1] 31)) := (Quint.new _ _ _ _ _ _ w).alloc _
  have QB : Quint 31 (w.heap.size + 1) (.int .i64 k1) (.slice b m d) (.int .i64 h1) (.int .i64 p1) (.int .i64 q1) ((w.alloc (.cells #[.int .i64 k, .slice a n c, .int .i64 h, .int .i64 p, .int .i64 q] 31)).alloc (.cells #[.int .i64 k1, .slice b m d, .int .i64 h1, .int .i64 p1, .int .i64 q1] 31)) := by have := Quint.new 31 (.int .i64 k1) (.slice b m d) (.int .i64 h1) (.int .i64 p1) (.int .i64 q1) (w.alloc (.cells #[.int .i64 k, .slice a n c, .int .i64 h, .int .i64 p, .int .i64 q] 31)); rw [size_alloc] at this; exact this
  have ra := ra.below hB
  have rb := rb.below hB
  obtain ⟨s0, s1, s2, s3, s4, s5, s6, s7, s8, s9⟩ := ten QA QB
  go_enter Try.func13, Try.ntmps13
  go_wp2_with fail
  go_region_held3 (fun w' => w'.cell? ⟨w.heap.size, 0, none⟩ = some (.int .i64 k) ∧ w'.cell? ⟨w.heap.size, 1, none⟩ = some (.slice a n c) ∧ w'.cell? ⟨w.heap.size, 2, none⟩ = some (.int .i64 h) ∧ w'.cell? ⟨w.heap.size, 3, none⟩ = some (.int .i64 p) ∧ w'.cell? ⟨w.heap.size, 4, none⟩ = some (.int .i64 q) ∧ w'.cell? ⟨w.heap.size + 1, 0, none⟩ = some (.int .i64 k1) ∧ w'.cell? ⟨w.heap.size + 1, 1, none⟩ = some (.slice b m d) ∧ w'.cell? ⟨w.heap.size + 1, 2, none⟩ = some (.int .i64 h1) ∧ w'.cell? ⟨w.heap.size + 1, 3, none⟩ = some (.int .i64 p1) ∧ w'.cell? ⟨w.heap.size + 1, 4, none⟩ = some (.int .i64 q1))
    (first | exact sx | exact ⟨s0, s1, s2, s3, s4, s5, s6, s7, s8, s9⟩ | assumption | go_keep)
    (first
    | (go_at_call 45; (with_reducible (show Calls _ _ #[(Value.agg #[Value.int IntKind.i64 (k), Value.slice (a) (n) (c), Value.int IntKind.i64 (h), Value.int IntKind.i64 (p), Value.int IntKind.i64 (q)])] _ _)); have gg := hoB; refine (ints_impl l0 u0 k h p q _ a n c xs (ra) (by omega) wk wh wp wq).mono ?_; rintro e w9 ⟨aA, cA, rfl, hoA, hxA, hyA, hb9⟩; have QA := QA.below hb9; have QB := QB.below hb9; have ra := ra.below hb9; have rb := rb.below hb9; have hoB := hoB.below hb9; have sx := ten QA QB; have hB := hB.trans (hb9.mono hB.size))
    | (go_at_call 45; (with_reducible (show Calls _ _ #[(Value.agg #[Value.int IntKind.i64 (k1), Value.slice (b) (m) (d), Value.int IntKind.i64 (h1), Value.int IntKind.i64 (p1), Value.int IntKind.i64 (q1)])] _ _)); have gg := hoA; refine (ints_impl l1 u1 k1 h1 p1 q1 _ b m d ys (rb) (by omega) wk1 wh1 wp1 wq1).mono ?_; rintro e w9 ⟨aB, cB, rfl, hoB, hxB, hyB, hb9⟩; have QA := QA.below hb9; have QB := QB.below hb9; have ra := ra.below hb9; have rb := rb.below hb9; have hoA := hoA.below hb9; have sx := ten QA QB; have hB := hB.trans (hb9.mono hB.size))
    | (go_at_call 45; (with_reducible (show Calls _ _ #[(Value.agg #[Value.int IntKind.i64 (k), Value.slice (a) (n) (c), Value.int IntKind.i64 (h), Value.int IntKind.i64 (p), Value.int IntKind.i64 (q)])] _ _)); (fail_if_success (have gg := hoB)); refine (ints_impl l0 u0 k h p q _ a n c xs (ra.below ((Below.refl _ _).drew)) (by omega) wk wh wp wq).mono ?_; rintro e w9 ⟨aA, cA, rfl, hoA, hxA, hyA, hb9⟩; have QA := QA.below (((Below.refl _ _).drew).trans hb9); have QB := QB.below (((Below.refl _ _).drew).trans hb9); have ra := ra.below (((Below.refl _ _).drew).trans hb9); have rb := rb.below (((Below.refl _ _).drew).trans hb9); have sx := ten QA QB; have hB := hB.trans ((((Below.refl _ _).drew).trans hb9).mono hB.size))
    | (go_at_call 45; (with_reducible (show Calls _ _ #[(Value.agg #[Value.int IntKind.i64 (k1), Value.slice (b) (m) (d), Value.int IntKind.i64 (h1), Value.int IntKind.i64 (p1), Value.int IntKind.i64 (q1)])] _ _)); (fail_if_success (have gg := hoA)); refine (ints_impl l1 u1 k1 h1 p1 q1 _ b m d ys (rb.below ((Below.refl _ _).drew)) (by omega) wk1 wh1 wp1 wq1).mono ?_; rintro e w9 ⟨aB, cB, rfl, hoB, hxB, hyB, hb9⟩; have QA := QA.below (((Below.refl _ _).drew).trans hb9); have QB := QB.below (((Below.refl _ _).drew).trans hb9); have ra := ra.below (((Below.refl _ _).drew).trans hb9); have rb := rb.below (((Below.refl _ _).drew).trans hb9); have sx := ten QA QB; have hB := hB.trans ((((Below.refl _ _).drew).trans hb9).mono hB.size))
    | (go_at_call 44; refine (EqI.impl_below _ _ _ _ _ _ _ _ _ _ _ _ _ hoA.row hoB.row (by omega) (by omega)).mono ?_; rintro e w9 ⟨rfl, hb9⟩; have QA := QA.below hb9; have QB := QB.below hb9; have ra := ra.below hb9; have rb := rb.below hb9; have sx := ten QA QB; have hB := hB.trans (hb9.mono hB.size))
    )
  all_goals
    go_wp2
    go_ret
    exact ⟨rfl, hB⟩

set_option maxHeartbeats 2000000 in
set_option maxRecDepth 100000 in
theorem same_spec (l0 u0 l1 u1 : Nat) (k h p q k1 h1 p1 q1 : Int) (w : World) (a b : Option Addr) (n c m d : Nat) (xs ys : List Int) (ra : Row .i64 l0 u0 w a n xs) (rb : Row .i64 l1 u1 w b m ys) (hn : n ≤ 1048576) (hm : m ≤ 1048576) :
    Calls Try.prog 61 #[(Value.agg #[Value.int IntKind.i64 (k), Value.slice (a) (n) (c), Value.int IntKind.i64 (h), Value.int IntKind.i64 (p), Value.int IntKind.i64 (q)]), (Value.agg #[Value.int IntKind.i64 (k1), Value.slice (b) (m) (d), Value.int IntKind.i64 (h1), Value.int IntKind.i64 (p1), Value.int IntKind.i64 (q1)])] w fun e w' => e = .returned (.bool (decide (k = k1 ∧ (h = h1 ∧ p = p1 ∧ q = q1) ∧ xs = ys))) ∧ Below w.heap.size w w' := by
  have hB : Below w.heap.size w ((w.alloc (.cells #[.int .i64 k, .slice a n c, .int .i64 h, .int .i64 p, .int .i64 q] 31)).alloc (.cells #[.int .i64 k1, .slice b m d, .int .i64 h1, .int .i64 p1, .int .i64 q1] 31)) := by repeat' (first | exact Below.refl _ _ | assumption | refine Below.setCell ?_ ?_ _ | refine Below.alloc ?_ ?_ _ | refine Adr.below_drewN ?_ _ | refine Below.drew ?_ | exact Nat.le_refl _ | omega | (dsimp only; omega) | refine Adr.le_alloc ?_ | refine Adr.le_set ?_ | refine Adr.le_drewN ?_ | refine Adr.le_drew ?_)
  have QA : Quint 31 w.heap.size (.int .i64 k) (.slice a n c) (.int .i64 h) (.int .i64 p) (.int .i64 q) ((w.alloc (.cells #[.int .i64 k, .slice a n c, .int .i64 h, .int .i64 p, .int .i64 q] 31)).alloc (.cells #[.int .i64 k1, .slice b m d, .int .i64 h1, .int .i64 p1, .int .i64 q1] 31)) := (Quint.new _ _ _ _ _ _ w).alloc _
  have QB : Quint 31 (w.heap.size + 1) (.int .i64 k1) (.slice b m d) (.int .i64 h1) (.int .i64 p1) (.int .i64 q1) ((w.alloc (.cells #[.int .i64 k, .slice a n c, .int .i64 h, .int .i64 p, .int .i64 q] 31)).alloc (.cells #[.int .i64 k1, .slice b m d, .int .i64 h1, .int .i64 p1, .int .i64 q1] 31)) := by have := Quint.new 31 (.int .i64 k1) (.slice b m d) (.int .i64 h1) (.int .i64 p1) (.int .i64 q1) (w.alloc (.cells #[.int .i64 k, .slice a n c, .int .i64 h, .int .i64 p, .int .i64 q] 31)); rw [size_alloc] at this; exact this
  have ra := ra.below hB
  have rb := rb.below hB
  have hE := EqI.spec_below l0 u0 l1 u1 _ a b n m c d xs ys ra rb (by omega) (by omega)
  clear ra rb QA QB
  by_cases ek : k = k1
  · by_cases ea : h = h1 ∧ p = p1 ∧ q = q1
    · obtain ⟨rfl, rfl, rfl⟩ := ea
      subst ek
      simp only [true_and, and_self]
      go_enter Try.func61, Try.ntmps61
      go_wp2_with fail
      go_at_call 76
      refine hE.mono ?_
      rintro e w1 ⟨rfl, hb1⟩
      go_wp2
      go_ret
      exact ⟨rfl, hB.trans (hb1.mono hB.size)⟩
    · have hd : decide (k = k1 ∧ (h = h1 ∧ p = p1 ∧ q = q1) ∧ xs = ys) = false := by simp only [decide_eq_false_iff_not]; exact fun e => ea e.2.1
      rw [hd]
      subst ek
      go_enter Try.func61, Try.ntmps61
      go_wp2
      all_goals
        go_ret
        exact ⟨rfl, by repeat' (first | exact Below.refl _ _ | assumption | refine Below.setCell ?_ ?_ _ | refine Below.alloc ?_ ?_ _ | refine Adr.below_drewN ?_ _ | refine Below.drew ?_ | exact Nat.le_refl _ | omega | (dsimp only; omega) | refine Adr.le_alloc ?_ | refine Adr.le_set ?_ | refine Adr.le_drewN ?_ | refine Adr.le_drew ?_)⟩
  · have hd : decide (k = k1 ∧ (h = h1 ∧ p = p1 ∧ q = q1) ∧ xs = ys) = false := by simp only [decide_eq_false_iff_not]; exact fun e => ek e.1
    rw [hd]
    go_enter Try.func61, Try.ntmps61
    go_wp2
    go_ret
    exact ⟨rfl, hB⟩

theorem alike_impl (l0 u0 l1 u1 : Nat) (k h p q k1 h1 p1 q1 : Int) (w : World) (a b : Option Addr) (n c m d : Nat) (xs ys : List Int) (ra : Row .i64 l0 u0 w a n xs) (rb : Row .i64 l1 u1 w b m ys) (hn : n ≤ 1048576) (hm : m ≤ 1048576) (wk : Wf k) (wh : Wf h) (wp : Wf p) (wq : Wf q) (wk1 : Wf k1) (wh1 : Wf h1) (wp1 : Wf p1) (wq1 : Wf q1) :
    Calls Try.prog 13 #[(Value.agg #[Value.int IntKind.i64 (k), Value.slice (a) (n) (c), Value.int IntKind.i64 (h), Value.int IntKind.i64 (p), Value.int IntKind.i64 (q)]), (Value.agg #[Value.int IntKind.i64 (k1), Value.slice (b) (m) (d), Value.int IntKind.i64 (h1), Value.int IntKind.i64 (p1), Value.int IntKind.i64 (q1)])] w fun e w' => e = .returned (.bool (decide (k = k1 ∧ (h = h1 ∧ p = p1 ∧ q = q1) ∧ xs = ys))) ∧ Below w.heap.size w w' := by
  have h := same_impl l0 u0 l1 u1 k h p q k1 h1 p1 q1 w a b n c m d xs ys ra rb hn hm wk wh wp wq wk1 wh1 wp1 wq1
  simp only [nums_inj ra.len rb.len] at h
  exact h
end Go.Proofs.Ytldpgkbemgpacaa.Res
