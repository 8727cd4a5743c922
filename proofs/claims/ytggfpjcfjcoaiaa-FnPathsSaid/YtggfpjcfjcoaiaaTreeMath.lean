/-
  Trees of digests, as plain functions of lists and numbers: the root of a list, the way up from an element, its steps, what changes a root.
  Conditions: none; nothing of the program stands here.
-/
import Derived.Test.YtggfpjcfjcoaiaaHashMath
namespace Go.Proofs.Ytggfpjcfjcoaiaa.Tre
open Go Go.RowKit Go.Proofs.Ytggfpjcfjcoaiaa.Hsh

/-- The root of a list: the first half, rounded up, and the rest. -/
def root (zs : List Int) : Int :=
  if h : zs.length ≤ 1 then zs.getD 0 0 else Hsh.hash [root (zs.take ((zs.length + 1) / 2)), root (zs.drop ((zs.length + 1) / 2))]
termination_by zs.length
decreasing_by
  · rw [List.length_take]; omega
  · rw [List.length_drop]; omega
theorem root_small {zs : List Int} (h : zs.length ≤ 1) : root zs = zs.getD 0 0 := by rw [root, dif_pos h]
theorem root_big {zs : List Int} (h : ¬ zs.length ≤ 1) : root zs = Hsh.hash [root (zs.take ((zs.length + 1) / 2)), root (zs.drop ((zs.length + 1) / 2))] := by rw [root, dif_neg h]

/-- How many steps lead from the root of n digests to the one at r. -/
def dep (n r : Nat) : Nat :=
  if _h : n ≤ 1 then 0 else if r < (n + 1) / 2 then dep ((n + 1) / 2) r + 1 else dep (n - (n + 1) / 2) (r - (n + 1) / 2) + 1
termination_by n
theorem dep_small {n r : Nat} (h : n ≤ 1) : dep n r = 0 := by rw [dep, dif_pos h]
theorem dep_left {n r : Nat} (h : ¬ n ≤ 1) (hr : r < (n + 1) / 2) : dep n r = dep ((n + 1) / 2) r + 1 := by rw [dep, dif_neg h, if_pos hr]
theorem dep_right {n r : Nat} (h : ¬ n ≤ 1) (hr : ¬ r < (n + 1) / 2) : dep n r = dep (n - (n + 1) / 2) (r - (n + 1) / 2) + 1 := by rw [dep, dif_neg h, if_neg hr]

/-- The other halves, the one nearest to the element first: where each begins, and where it ends. -/
def steps (lo n r : Nat) : List (Nat × Nat) :=
  if _h : n ≤ 1 then [] else if r < (n + 1) / 2 then steps lo ((n + 1) / 2) r ++ [(lo + (n + 1) / 2, lo + n)] else steps (lo + (n + 1) / 2) (n - (n + 1) / 2) (r - (n + 1) / 2) ++ [(lo, lo + (n + 1) / 2)]
termination_by n
theorem steps_small {lo n r : Nat} (h : n ≤ 1) : steps lo n r = [] := by rw [steps, dif_pos h]
theorem steps_left {lo n r : Nat} (h : ¬ n ≤ 1) (hr : r < (n + 1) / 2) : steps lo n r = steps lo ((n + 1) / 2) r ++ [(lo + (n + 1) / 2, lo + n)] := by rw [steps, dif_neg h, if_pos hr]
theorem steps_right {lo n r : Nat} (h : ¬ n ≤ 1) (hr : ¬ r < (n + 1) / 2) : steps lo n r = steps (lo + (n + 1) / 2) (n - (n + 1) / 2) (r - (n + 1) / 2) ++ [(lo, lo + (n + 1) / 2)] := by rw [steps, dif_neg h, if_neg hr]
theorem steps_len (k : Nat) : ∀ lo n r : Nat, n ≤ k → (steps lo n r).length = dep n r := by
  induction k with
  | zero => intro lo n r h; rw [steps_small (by omega), dep_small (by omega)]; rfl
  | succ k ih =>
    intro lo n r h
    by_cases h1 : n ≤ 1
    · rw [steps_small h1, dep_small h1]; rfl
    · by_cases hr : r < (n + 1) / 2
      · rw [steps_left h1 hr, dep_left h1 hr, List.length_append, ih _ _ _ (by omega)]; rfl
      · rw [steps_right h1 hr, dep_right h1 hr, List.length_append, ih _ _ _ (by omega)]; rfl
theorem steps_length (lo n r : Nat) : (steps lo n r).length = dep n r := steps_len n lo n r (Nat.le_refl _)
theorem dep_le (k : Nat) : ∀ n r : Nat, n ≤ k → dep n r ≤ n := by
  induction k with
  | zero => intro n r h; rw [dep_small (by omega)]; omega
  | succ k ih =>
    intro n r h
    by_cases h1 : n ≤ 1
    · rw [dep_small h1]; omega
    · by_cases hr : r < (n + 1) / 2
      · rw [dep_left h1 hr]; have := ih ((n + 1) / 2) r (by omega); omega
      · rw [dep_right h1 hr]; have := ih (n - (n + 1) / 2) (r - (n + 1) / 2) (by omega); omega
theorem dep_at (n r : Nat) : dep n r ≤ n := dep_le n n r (Nat.le_refl _)
/-- Each step is a part of the span, and not the whole of it. -/
theorem steps_in (k : Nat) : ∀ lo n r : Nat, n ≤ k → ∀ s ∈ steps lo n r, lo ≤ s.1 ∧ s.1 < s.2 ∧ s.2 ≤ lo + n ∧ s.2 - s.1 < n := by
  induction k with
  | zero => intro lo n r h s hs; rw [steps_small (by omega)] at hs; cases hs
  | succ k ih =>
    intro lo n r h s hs
    by_cases h1 : n ≤ 1
    · rw [steps_small h1] at hs; cases hs
    · by_cases hr : r < (n + 1) / 2
      · rw [steps_left h1 hr, List.mem_append] at hs
        rcases hs with hs | hs
        · have := ih _ _ _ (by omega) s hs; omega
        · simp only [List.mem_singleton] at hs; subst hs; dsimp only; omega
      · rw [steps_right h1 hr, List.mem_append] at hs
        rcases hs with hs | hs
        · have := ih _ _ _ (by omega) s hs; omega
        · simp only [List.mem_singleton] at hs; subst hs; dsimp only; omega

/-- The root that is reached from a digest, v j being what stands beside the way at its step j. -/
def climbed (n r : Nat) (d : Int) (v : Nat → Int) : Int :=
  if _h : n ≤ 1 then d else if r < (n + 1) / 2 then Hsh.hash [climbed ((n + 1) / 2) r d v, v (dep ((n + 1) / 2) r)] else Hsh.hash [v (dep (n - (n + 1) / 2) (r - (n + 1) / 2)), climbed (n - (n + 1) / 2) (r - (n + 1) / 2) d v]
termination_by n
section
variable {n r : Nat} {d : Int} {v : Nat → Int}
theorem climbed_small (h : n ≤ 1) : climbed n r d v = d := by rw [climbed, dif_pos h]
theorem climbed_left (h : ¬ n ≤ 1) (hr : r < (n + 1) / 2) : climbed n r d v = Hsh.hash [climbed ((n + 1) / 2) r d v, v (dep ((n + 1) / 2) r)] := by rw [climbed, dif_neg h, if_pos hr]
theorem climbed_right (h : ¬ n ≤ 1) (hr : ¬ r < (n + 1) / 2) : climbed n r d v = Hsh.hash [v (dep (n - (n + 1) / 2) (r - (n + 1) / 2)), climbed (n - (n + 1) / 2) (r - (n + 1) / 2) d v] := by rw [climbed, dif_neg h, if_neg hr]
end
theorem climbed_like (k : Nat) : ∀ (n r : Nat) (d : Int) (u v : Nat → Int), n ≤ k → (∀ j, j < dep n r → u j = v j) → climbed n r d u = climbed n r d v := by
  induction k with
  | zero => intro n r d u v h _; rw [climbed_small (by omega), climbed_small (by omega)]
  | succ k ih =>
    intro n r d u v h hv
    by_cases h1 : n ≤ 1
    · rw [climbed_small h1, climbed_small h1]
    · by_cases hr : r < (n + 1) / 2
      · rw [dep_left h1 hr] at hv
        rw [climbed_left h1 hr, climbed_left h1 hr, ih _ _ d u v (by omega) (fun j hj => hv j (by omega)), hv _ (Nat.lt_succ_self _)]
      · rw [dep_right h1 hr] at hv
        rw [climbed_right h1 hr, climbed_right h1 hr, ih _ _ d u v (by omega) (fun j hj => hv j (by omega)), hv _ (Nat.lt_succ_self _)]
theorem climbed_wf (k : Nat) : ∀ (n r : Nat) (d : Int) (v : Nat → Int), n ≤ k → (Lit.int .i64 d).wf = true → (Lit.int .i64 (climbed n r d v)).wf = true := by
  intro n r d v _ hd
  by_cases h1 : n ≤ 1
  · rw [climbed_small h1]; exact hd
  · by_cases hr : r < (n + 1) / 2
    · rw [climbed_left h1 hr]; have := hash_range [climbed ((n + 1) / 2) r d v, v (dep ((n + 1) / 2) r)]; exact WalkArith.wf_i64 (by omega)
    · rw [climbed_right h1 hr]; have := hash_range [v (dep (n - (n + 1) / 2) (r - (n + 1) / 2)), climbed (n - (n + 1) / 2) (r - (n + 1) / 2) d v]; exact WalkArith.wf_i64 (by omega)
theorem root_wf {zs : List Int} (h : ∀ z ∈ zs, (Lit.int .i64 z).wf = true) : (Lit.int .i64 (root zs)).wf = true := by
  by_cases h1 : zs.length ≤ 1
  · rw [root_small h1]
    cases zs with
    | nil => exact WalkArith.wf_i64 (by simp)
    | cons z zs => exact h z (by simp)
  · rw [root_big h1]; have := hash_range [root (zs.take ((zs.length + 1) / 2)), root (zs.drop ((zs.length + 1) / 2))]; exact WalkArith.wf_i64 (by omega)

/-- The part of a list from a on and below b. -/
def part (zs : List Int) (a b : Nat) : List Int := (zs.drop a).take (b - a)
theorem part_len {zs : List Int} {a b : Nat} (h0 : a ≤ b) (h : b ≤ zs.length) : (part zs a b).length = b - a := by unfold part; rw [List.length_take, List.length_drop]; omega
theorem part_all (zs : List Int) : part zs 0 zs.length = zs := by simp [part]
theorem part_take {zs : List Int} {a n h : Nat} (hh : h ≤ n) : (part zs a (a + n)).take h = part zs a (a + h) := by
  unfold part; rw [List.take_take]; congr 1; omega
theorem part_drop {zs : List Int} {a n h : Nat} : (part zs a (a + n)).drop h = part zs (a + h) (a + n) := by
  unfold part; rw [List.drop_take, List.drop_drop]; congr 1; omega
theorem part_part {zs : List Int} {a b c d : Nat} (h : a + d ≤ b) : part (part zs a b) c d = part zs (a + c) (a + d) := by
  unfold part; rw [List.drop_take, List.drop_drop, List.take_take]; congr 1; omega
theorem part_getD {zs : List Int} {a b j : Nat} (h : a + j < b) : (part zs a b).getD j 0 = zs.getD (a + j) 0 := by
  unfold part
  rw [List.getD_eq_getElem?_getD, List.getD_eq_getElem?_getD, List.getElem?_take_of_lt (by omega), List.getElem?_drop]

/-- The roots beside the way. -/
def pathOf (zs : List Int) (r : Nat) : List Int := (steps 0 zs.length r).map fun s => root (part zs s.1 s.2)
theorem pathOf_len (zs : List Int) (r : Nat) : (pathOf zs r).length = dep zs.length r := by rw [pathOf, List.length_map, steps_length]
/-- With the roots beside the way the root of the whole is reached. -/
theorem climbed_root (k : Nat) : ∀ (lo n r : Nat) (zs : List Int) (v : Nat → Int), n ≤ k → r < n → lo + n ≤ zs.length →
    (∀ j s, (steps lo n r)[j]? = some s → v j = root (part zs s.1 s.2)) → climbed n r (zs.getD (lo + r) 0) v = root (part zs lo (lo + n)) := by
  induction k with
  | zero => intro lo n r zs v h h0; omega
  | succ k ih =>
    intro lo n r zs v h h0 hn hv
    have hl : (part zs lo (lo + n)).length = n := by rw [part_len (by omega) hn]; omega
    by_cases h1 : n ≤ 1
    · obtain rfl : n = 1 := by omega
      obtain rfl : r = 0 := by omega
      rw [climbed_small h1, root_small (by omega), part_getD (by omega)]
    · by_cases hr : r < (n + 1) / 2
      · rw [steps_left h1 hr] at hv
        rw [climbed_left h1 hr, root_big (by omega), hl, part_take (by omega), part_drop]
        rw [ih lo _ r zs v (by omega) hr (by omega) (fun j s hs => hv j s (by rw [List.getElem?_append_left (by have := List.getElem?_eq_some_iff.1 hs; exact this.1)]; exact hs))]
        rw [hv (dep ((n + 1) / 2) r) (lo + (n + 1) / 2, lo + n) (by rw [List.getElem?_append_right (by rw [steps_length]; omega), steps_length, Nat.sub_self]; rfl)]
      · rw [steps_right h1 hr] at hv
        rw [climbed_right h1 hr, root_big (by omega), hl, part_take (by omega), part_drop]
        have h2 := ih (lo + (n + 1) / 2) (n - (n + 1) / 2) (r - (n + 1) / 2) zs v (by omega) (by omega) (by omega) (fun j s hs => hv j s (by rw [List.getElem?_append_left (by have := List.getElem?_eq_some_iff.1 hs; exact this.1)]; exact hs))
        rw [show lo + (n + 1) / 2 + (r - (n + 1) / 2) = lo + r by omega, show lo + (n + 1) / 2 + (n - (n + 1) / 2) = lo + n by omega] at h2
        rw [h2]
        rw [hv (dep (n - (n + 1) / 2) (r - (n + 1) / 2)) (lo, lo + (n + 1) / 2) (by rw [List.getElem?_append_right (by rw [steps_length]; omega), steps_length, Nat.sub_self]; rfl)]
theorem climbed_whole (zs : List Int) (r : Nat) (v : Nat → Int) (h : r < zs.length) (hv : ∀ j, j < dep zs.length r → v j = (pathOf zs r).getD j 0) : climbed zs.length r (zs.getD r 0) v = root zs := by
  have h1 := climbed_root zs.length 0 zs.length r zs v (Nat.le_refl _) h (by omega) (fun j s hs => by
    have hj : j < dep zs.length r := by rw [← steps_length 0]; exact (List.getElem?_eq_some_iff.1 hs).1
    rw [hv j hj, pathOf, List.getD_eq_getElem?_getD, List.getElem?_map, hs]; rfl)
  rw [Nat.zero_add, Nat.zero_add, part_all] at h1
  exact h1
/-- The model's way of writing the path: half by half. -/
theorem path_halves (k : Nat) : ∀ (lo n r : Nat) (zs : List Int), n ≤ k → r < n → lo + n ≤ zs.length →
    (steps lo n r).map (fun s => root (part zs s.1 s.2)) = pathOf (part zs lo (lo + n)) r := by
  induction k with
  | zero => intro lo n r zs h h0; omega
  | succ k ih =>
    intro lo n r zs h h0 hn
    have hl : (part zs lo (lo + n)).length = n := by rw [part_len (by omega) hn]; omega
    unfold pathOf
    rw [hl]
    by_cases h1 : n ≤ 1
    · rw [steps_small h1, steps_small h1]; rfl
    · by_cases hr : r < (n + 1) / 2
      · rw [steps_left h1 hr, steps_left h1 hr, List.map_append, List.map_append, ih _ _ _ zs (by omega) hr (by omega)]
        rw [ih 0 ((n + 1) / 2) r (part zs lo (lo + n)) (by omega) hr (by omega)]
        have e1 : part (part zs lo (lo + n)) 0 (0 + (n + 1) / 2) = part zs lo (lo + (n + 1) / 2) := by
          rw [part_part (by omega), Nat.zero_add]; rfl
        have e2 : part (part zs lo (lo + n)) (0 + (n + 1) / 2) (0 + n) = part zs (lo + (n + 1) / 2) (lo + n) := by
          rw [part_part (by omega), Nat.zero_add, Nat.zero_add]
        rw [e1]
        simp only [List.map_cons, List.map_nil]
        rw [e2]
      · rw [steps_right h1 hr, steps_right h1 hr, List.map_append, List.map_append, ih _ _ _ zs (by omega) (by omega) (by omega)]
        rw [ih (0 + (n + 1) / 2) (n - (n + 1) / 2) (r - (n + 1) / 2) (part zs lo (lo + n)) (by omega) (by omega) (by omega)]
        have e1 : part (part zs lo (lo + n)) 0 (0 + (n + 1) / 2) = part zs lo (lo + (n + 1) / 2) := by
          rw [part_part (by omega), Nat.zero_add]; rfl
        have e2 : part (part zs lo (lo + n)) (0 + (n + 1) / 2) (0 + (n + 1) / 2 + (n - (n + 1) / 2)) = part zs (lo + (n + 1) / 2) (lo + (n + 1) / 2 + (n - (n + 1) / 2)) := by
          rw [part_part (by omega), show lo + (0 + (n + 1) / 2 + (n - (n + 1) / 2)) = lo + (n + 1) / 2 + (n - (n + 1) / 2) by omega, Nat.zero_add]
        rw [e2]
        simp only [List.map_cons, List.map_nil]
        rw [e1]
theorem pathOf_small {zs : List Int} {r : Nat} (h : zs.length ≤ 1) : pathOf zs r = [] := by rw [pathOf, steps_small h]; rfl
theorem pathOf_left {zs : List Int} {r : Nat} (h : ¬ zs.length ≤ 1) (hr : r < (zs.length + 1) / 2) : pathOf zs r = pathOf (zs.take ((zs.length + 1) / 2)) r ++ [root (zs.drop ((zs.length + 1) / 2))] := by
  rw [pathOf, steps_left h hr, List.map_append, path_halves zs.length 0 _ r zs (by omega) hr (by omega)]
  simp only [List.map_cons, List.map_nil, Nat.zero_add]
  have e1 : part zs ((zs.length + 1) / 2) zs.length = zs.drop ((zs.length + 1) / 2) := by
    unfold part; rw [List.take_of_length_le]; rw [List.length_drop]; exact Nat.le_refl _
  have e2 : part zs 0 ((zs.length + 1) / 2) = zs.take ((zs.length + 1) / 2) := by simp [part]
  rw [e1, e2]
theorem pathOf_right {zs : List Int} {r : Nat} (h : ¬ zs.length ≤ 1) (hr : ¬ r < (zs.length + 1) / 2) (hl : r < zs.length) : pathOf zs r = pathOf (zs.drop ((zs.length + 1) / 2)) (r - (zs.length + 1) / 2) ++ [root (zs.take ((zs.length + 1) / 2))] := by
  rw [pathOf, steps_right h hr, List.map_append, path_halves zs.length (0 + (zs.length + 1) / 2) (zs.length - (zs.length + 1) / 2) (r - (zs.length + 1) / 2) zs (by omega) (by omega) (by omega)]
  rw [show 0 + (zs.length + 1) / 2 + (zs.length - (zs.length + 1) / 2) = zs.length by omega, Nat.zero_add]
  simp only [List.map_cons, List.map_nil]
  have e1 : part zs ((zs.length + 1) / 2) zs.length = zs.drop ((zs.length + 1) / 2) := by
    unfold part; rw [List.take_of_length_le]; rw [List.length_drop]; exact Nat.le_refl _
  have e2 : part zs 0 ((zs.length + 1) / 2) = zs.take ((zs.length + 1) / 2) := by simp [part]
  rw [e1, e2]

/-! What changes a root. -/
theorem hash2_left {a b x : Int} (h : a % 2147483647 ≠ b % 2147483647) : Hsh.hash [a, x] % 2147483647 ≠ Hsh.hash [b, x] % 2147483647 := by
  have ha := hash_range [a, x]
  have hb := hash_range [b, x]
  have h1 : Hsh.hash [a, x] ≠ Hsh.hash [b, x] := fun e =>
    hstep_new (d := 11) h (hstep_inj (v := x) (hstep_range 11 a).1 (hstep_range 11 a).2 (hstep_range 11 b).1 (hstep_range 11 b).2 e)
  omega
theorem hash2_right {a b x : Int} (h : a % 2147483647 ≠ b % 2147483647) : Hsh.hash [x, a] % 2147483647 ≠ Hsh.hash [x, b] % 2147483647 := by
  have ha := hash_range [x, a]
  have hb := hash_range [x, b]
  have h1 : Hsh.hash [x, a] ≠ Hsh.hash [x, b] := fun e => hstep_new (d := hstep 11 x) h e
  omega
theorem climbed_digest (k : Nat) : ∀ (n r : Nat) (d e : Int) (v : Nat → Int), n ≤ k → d % 2147483647 ≠ e % 2147483647 → climbed n r d v % 2147483647 ≠ climbed n r e v % 2147483647 := by
  induction k with
  | zero => intro n r d e v h hd; rw [climbed_small (by omega), climbed_small (by omega)]; exact hd
  | succ k ih =>
    intro n r d e v h hd
    by_cases h1 : n ≤ 1
    · rw [climbed_small h1, climbed_small h1]; exact hd
    · by_cases hr : r < (n + 1) / 2
      · rw [climbed_left h1 hr, climbed_left h1 hr]; exact hash2_left (ih _ _ d e v (by omega) hd)
      · rw [climbed_right h1 hr, climbed_right h1 hr]; exact hash2_right (ih _ _ d e v (by omega) hd)
theorem climbed_beside (k : Nat) : ∀ (n r m : Nat) (d : Int) (u v : Nat → Int), n ≤ k → m < dep n r → u m % 2147483647 ≠ v m % 2147483647 → (∀ j, j ≠ m → u j = v j) → climbed n r d u % 2147483647 ≠ climbed n r d v % 2147483647 := by
  induction k with
  | zero => intro n r m d u v h hm; rw [dep_small (by omega)] at hm; omega
  | succ k ih =>
    intro n r m d u v h hm hd hs
    by_cases h1 : n ≤ 1
    · rw [dep_small h1] at hm; omega
    · by_cases hr : r < (n + 1) / 2
      · rw [climbed_left h1 hr, climbed_left h1 hr]
        rw [dep_left h1 hr] at hm
        by_cases he : dep ((n + 1) / 2) r = m
        · rw [climbed_like _ _ _ d u v (Nat.le_refl _) (fun j hj => hs j (by omega)), he]; exact hash2_right hd
        · rw [hs _ he]; exact hash2_left (ih _ _ m d u v (by omega) (by omega) hd hs)
      · rw [climbed_right h1 hr, climbed_right h1 hr]
        rw [dep_right h1 hr] at hm
        by_cases he : dep (n - (n + 1) / 2) (r - (n + 1) / 2) = m
        · rw [climbed_like _ _ _ d u v (Nat.le_refl _) (fun j hj => hs j (by omega)), he]; exact hash2_left hd
        · rw [hs _ he]; exact hash2_right (ih _ _ m d u v (by omega) (by omega) hd hs)
end Go.Proofs.Ytggfpjcfjcoaiaa.Tre
