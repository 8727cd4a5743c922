/-
  RootOf of the model: the root of a row of digests.
  Conditions: the row lies in memory, at most 10^12 digests.
-/
import Derived.Test.YtggfpjcfjcoaiaaRootI
import Derived.Deep.RegionLaw
namespace Go.Proofs.Ytggfpjcfjcoaiaa.Tre
open Go Go.RowKit Go.Proofs.Ytggfpjcfjcoaiaa.Mem Go.Proofs.Ytggfpjcfjcoaiaa.Hsh
set_option linter.unusedVariables false

/-- The model's RootOf at every row shorter than m. -/
def RootsToS (m : Nat) : Prop := ∀ (lo hi n c : Nat) (w : World) (a : Option Addr) (zs : List Int), n < m → Row .i64 lo hi w a n zs → n ≤ c → c ≤ maxLen → n ≤ 1000000000000 →
  Calls Try.prog 20 #[.slice a n c] w fun e w' => e = .returned (.int .i64 (root zs)) ∧ Below w.heap.size w w'

set_option maxHeartbeats 1000000 in
set_option maxRecDepth 100000 in
theorem roots_small (lo hi n c : Nat) (w : World) (a : Option Addr) (zs : List Int) (hr : Row .i64 lo hi w a n zs) (hn : n ≤ 1) :
    Calls Try.prog 20 #[.slice a n c] w fun e w' => e = .returned (.int .i64 (root zs)) ∧ Below w.heap.size w w' := by
  have hl := hr.len
  rw [root_small (by omega)]
  by_cases h0 : n = 0
  · subst h0
    obtain rfl := List.eq_nil_of_length_eq_zero hl
    go_enter Try.func20, Try.ntmps20
    go_wp2_with fail
    go_ret
    exact ⟨rfl, Below.refl _ _⟩
  · obtain rfl : n = 1 := by omega
    obtain ⟨b, off, rfl, _, _, hc⟩ := hr.cell (j := 0) (by omega)
    rw [Nat.add_zero] at hc
    obtain ⟨z, hz⟩ : ∃ z, Hid (zs.getD 0 0 = z) := ⟨_, rfl⟩
    rw [hz.out] at hc ⊢
    clear hr hl
    go_enter Try.func20, Try.ntmps20
    go_wp2_with fail
    go_ret
    exact ⟨rfl, Below.refl _ _⟩

set_option maxHeartbeats 2000000 in
set_option maxRecDepth 100000 in
theorem roots_big (lo hi n c b off : Nat) (w : World) (zs : List Int) (R : RootsToS n) (hr : Row .i64 lo hi w (some ⟨b, off, none⟩) n zs) (h1 : ¬ n ≤ 1) (hc : n ≤ c) (hm : c ≤ maxLen) (hn : n ≤ 1000000000000) :
    Calls Try.prog 20 #[.slice (some ⟨b, off, none⟩) n c] w fun e w' => e = .returned (.int .i64 (root zs)) ∧ Below w.heap.size w w' := by
  have hl := hr.len
  rw [root_big (by omega), hl]
  obtain ⟨m, hmm⟩ : ∃ m, Hid ((n + 1) / 2 = m) := ⟨_, rfl⟩
  rw [hmm.out]
  have hq : ((n : Int) + 1).tdiv 2 = (m : Int) := by rw [Int.tdiv_eq_ediv_of_nonneg (by omega), ← hmm.out]; omega
  have m0 : 0 < m := by have := hmm.out; omega
  have m1 : m < n := by have := hmm.out; omega
  have hmc : m ≤ c := by omega
  have hmn : m ≤ n := by omega
  have hcm : ¬ c = m := by omega
  have e0 : ((n : Int) == 0) = false := by simp; omega
  have e1 : ((n : Int) == 1) = false := by simp; omega
  have eA : part zs 0 m = zs.take m := by simp [part]
  have eB : part zs m n = zs.drop m := by unfold part; rw [List.take_of_length_le]; rw [List.length_drop]; omega
  have wA : (Lit.int .i64 (root (zs.take m))).wf = true := root_wf (fun z hz => hr.wf z (List.mem_of_mem_take hz))
  have wB : (Lit.int .i64 (root (zs.drop m))).wf = true := root_wf (fun z hz => hr.wf z (List.mem_of_mem_drop hz))
  have hA : ∀ W, Below w.heap.size w W → Calls Try.prog 20 #[.slice (some ⟨b, off, none⟩) m c] W fun e w' => e = .returned (.int .i64 (root (zs.take m))) ∧ Below W.heap.size W w' := fun W hW => by
    have := R lo hi m c W (some ⟨b, off, none⟩) (zs.take m) m1 (by have := row_part (hr.below hW) (x := 0) (y := m) (Nat.zero_le _) (by omega); rw [eA] at this; exact this) (by omega) hm (by omega)
    exact this
  have hB : ∀ W, Below w.heap.size w W → Calls Try.prog 20 #[.slice (some ⟨b, off + m, none⟩) (n - m) (c - m)] W fun e w' => e = .returned (.int .i64 (root (zs.drop m))) ∧ Below W.heap.size W w' := fun W hW => by
    have := R lo hi (n - m) (c - m) W (some ⟨b, off + m, none⟩) (zs.drop m) (by omega) (by have := row_part (hr.below hW) (x := m) (y := n) (by omega) (Nat.le_refl _); rw [eB] at this; exact this) (by omega) (by omega) (by omega)
    exact this
  obtain ⟨x, hx⟩ : ∃ x, Hid (root (zs.take m) = x) := ⟨_, rfl⟩
  obtain ⟨y, hy⟩ : ∃ y, Hid (root (zs.drop m) = y) := ⟨_, rfl⟩
  rw [hx.out] at hA wA ⊢
  rw [hy.out] at hB wB ⊢
  have hW0 : Below w.heap.size w w := Below.refl _ _
  clear R hr hl eA eB h1
  go_enter Try.func20, Try.ntmps20
  go_wp2_with fail
  go_region_law (first
    | (go_simp; go_at_call 20; (with_reducible (show Calls _ _ #[.slice _ m _] _ _)); refine (hA _ ?_).mono ?_; (first | exact hW0 | exact hW0.drew); rintro e w9 ⟨rfl, hb9⟩; have hW0 : Below w.heap.size w w9 := (by first | exact hW0.trans (hb9.mono hW0.size) | exact hW0.drew.trans (hb9.mono hW0.size)))
    | (go_simp; go_at_call 20; (with_reducible (show Calls _ _ #[.slice _ (n - m) _] _ _)); refine (hB _ ?_).mono ?_; (first | exact hW0 | exact hW0.drew); rintro e w9 ⟨rfl, hb9⟩; have hW0 : Below w.heap.size w w9 := (by first | exact hW0.trans (hb9.mono hW0.size) | exact hW0.drew.trans (hb9.mono hW0.size)))
    | (go_simp; go_at_call 38; refine (hash_spec _ _ _ _ 2 2 [x, y] (two_row x y _ wA wB) (by omega)).mono ?_; rintro e w8 ⟨rfl, rfl⟩))
  all_goals
    go_wp2
    go_ret
    exact ⟨rfl, hW0.alloc hW0.size _⟩

theorem rootsS (m : Nat) : RootsToS m := by
  induction m with
  | zero => intro lo hi n c w a zs h; omega
  | succ m ih =>
    intro lo hi n c w a zs h hr hc hm hn
    by_cases h1 : n ≤ 1
    · exact roots_small lo hi n c w a zs hr h1
    · obtain ⟨b, off, rfl, _⟩ := hr.here (by omega)
      exact roots_big lo hi n c b off w zs (fun lo hi n' c w a zs h' => ih lo hi n' c w a zs (by omega)) hr h1 hc hm hn
theorem root_spec (lo hi n c : Nat) (w : World) (a : Option Addr) (zs : List Int) (hr : Row .i64 lo hi w a n zs) (hc : n ≤ c) (hm : c ≤ maxLen) (hn : n ≤ 1000000000000) :
    Calls Try.prog 20 #[.slice a n c] w fun e w' => e = .returned (.int .i64 (root zs)) ∧ Below w.heap.size w w' :=
  rootsS (n + 1) lo hi n c w a zs (Nat.lt_succ_self _) hr hc hm hn
end Go.Proofs.Ytggfpjcfjcoaiaa.Tre
