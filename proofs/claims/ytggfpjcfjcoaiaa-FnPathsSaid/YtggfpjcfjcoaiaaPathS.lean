/-
  PathTo of the model: the roots beside the way.
  Conditions: the row lies in memory, at most 10^12 digests.
-/
import Derived.Test.YtggfpjcfjcoaiaaRootS
import Derived.Test.YtggfpjcfjcoaiaaStep
namespace Go.Proofs.Ytggfpjcfjcoaiaa.Tre
open Go Go.RowKit Go.Proofs.Ytggfpjcfjcoaiaa.Mem Go.Proofs.Ytggfpjcfjcoaiaa.Hsh
set_option linter.unusedVariables false

/-- The path to an element, none where there is no such element. -/
def pth (zs : List Int) (i : Int) : List Int := if 0 ≤ i ∧ i < zs.length then pathOf zs i.toNat else []
theorem pth_out {zs : List Int} {i : Int} (h : i < 0 ∨ (zs.length : Int) ≤ i) : pth zs i = [] := by unfold pth; rw [if_neg (by omega)]
theorem pth_in {zs : List Int} {i : Int} (h0 : 0 ≤ i) (h1 : i < zs.length) : pth zs i = pathOf zs i.toNat := by unfold pth; rw [if_pos ⟨h0, h1⟩]
theorem pth_wf {zs : List Int} (h : ∀ z ∈ zs, (Lit.int .i64 z).wf = true) (i : Int) : ∀ z ∈ pth zs i, (Lit.int .i64 z).wf = true := by
  unfold pth
  split
  · intro z hz
    rw [pathOf, List.mem_map] at hz
    obtain ⟨s, _, rfl⟩ := hz
    exact root_wf (fun z hz => h z (List.mem_of_mem_drop (List.mem_of_mem_take hz)))
  · intro z hz; cases hz
theorem pth_len (zs : List Int) (i : Int) : (pth zs i).length ≤ zs.length := by
  unfold pth
  split
  · rw [pathOf_len]; exact dep_at _ _
  · exact Nat.zero_le _
theorem ownI_base {k : IntKind} {e : TypeId} {B B' n : Nat} {w : World} {v : Value} {zs : List Int} (h : OwnI k e B w v n zs) (hB : B' ≤ B) : OwnI k e B' w v n zs := by
  refine ⟨h.1, ?_⟩
  rcases h.2 with h2 | ⟨g, cap, cur, h1, h2, h3⟩
  · exact .inl h2
  · exact .inr ⟨g, cap, cur, h1, by omega, h3⟩
theorem below_drew (w : World) : Below w.heap.size w w.drew := ⟨rfl, rfl, rfl, Nat.le_refl _, fun _ _ => rfl⟩

/-- What PathTo hands back. -/
def Hands (w : World) (zs : List Int) (e : Ending) (w' : World) : Prop :=
  ∃ v, e = .returned v ∧ OwnI .i64 3 w.heap.size w' v zs.length zs ∧ Below w.heap.size w w'

set_option maxHeartbeats 1000000 in
set_option maxRecDepth 100000 in
theorem pathS_out (n c : Nat) (i : Int) (w : World) (a : Option Addr) (zs : List Int) (hi : i < 0 ∨ (n : Int) ≤ i) (hn : n ≤ 1000000000000) :
    Calls Try.prog 23 #[.slice a n c, .int .i64 i] w (Hands w []) := by
  have hb : Below w.heap.size w (w.alloc (.cells #[] 3)) := by repeat' (first | exact Below.refl _ _ | assumption | refine Below.setCell ?_ ?_ _ | refine Below.alloc ?_ ?_ _ | refine Adr.below_drewN ?_ _ | refine Below.drew ?_ | exact Nat.le_refl _ | omega | (dsimp only; omega) | refine Adr.le_alloc ?_ | refine Adr.le_set ?_ | refine Adr.le_drewN ?_ | refine Adr.le_drew ?_)
  have hm := OwnI.made .i64 3 (base := w.heap.size) w (Nat.le_refl _)
  have hC := fun W => Range.l1_no i 0 ((n : Int) - 1) W (by omega)
  go_enter Try.func23, Try.ntmps23
  go_wp2_with fail
  go_at_call 44
  refine (hC _).mono ?_
  rintro e w1 ⟨rfl, rfl⟩
  go_wp2_with fail
  go_ret
  exact ⟨_, rfl, hm, hb⟩

set_option maxHeartbeats 1000000 in
set_option maxRecDepth 100000 in
theorem pathS_one (n c : Nat) (i : Int) (w : World) (a : Option Addr) (h0 : 0 ≤ i) (h1 : i < n) (hn : n ≤ 1) :
    Calls Try.prog 23 #[.slice a n c, .int .i64 i] w (Hands w []) := by
  have hb : Below w.heap.size w (w.alloc (.cells #[] 3)) := by repeat' (first | exact Below.refl _ _ | assumption | refine Below.setCell ?_ ?_ _ | refine Below.alloc ?_ ?_ _ | refine Adr.below_drewN ?_ _ | refine Below.drew ?_ | exact Nat.le_refl _ | omega | (dsimp only; omega) | refine Adr.le_alloc ?_ | refine Adr.le_set ?_ | refine Adr.le_drewN ?_ | refine Adr.le_drew ?_)
  have hm := OwnI.made .i64 3 (base := w.heap.size) w (Nat.le_refl _)
  have hC := fun W => Range.l1_yes i 0 ((n : Int) - 1) W (by omega) (by omega)
  have hn2 : decide ((n : Int) < 2) = true := by simp; omega
  go_enter Try.func23, Try.ntmps23
  go_wp2_with fail
  go_at_call 44
  refine (hC _).mono ?_
  rintro e w1 ⟨rfl, rfl⟩
  go_wp2_with fail
  go_ret
  exact ⟨_, rfl, hm, hb⟩

/-- The model's PathTo at every row shorter than m. -/
def PathsToS (m : Nat) : Prop := ∀ (lo hi n c : Nat) (i : Int) (w : World) (a : Option Addr) (zs : List Int), n < m → Row .i64 lo hi w a n zs → n ≤ c → c ≤ maxLen → n ≤ 1000000000000 → (Lit.int .i64 i).wf = true →
  Calls Try.prog 23 #[.slice a n c, .int .i64 i] w (Hands w (pth zs i))

set_option maxHeartbeats 4000000 in
set_option maxRecDepth 100000 in
theorem pathS_left (lo hi n c b off : Nat) (i : Int) (w : World) (zs : List Int) (R : PathsToS n) (hr : Row .i64 lo hi w (some ⟨b, off, none⟩) n zs) (h1 : ¬ n ≤ 1) (hc : n ≤ c) (hm : c ≤ maxLen) (hn : n ≤ 1000000000000) (wi : (Lit.int .i64 i).wf = true)
    (i0 : 0 ≤ i) (i1 : i < ((n + 1) / 2 : Nat)) :
    Calls Try.prog 23 #[.slice (some ⟨b, off, none⟩) n c, .int .i64 i] w (Hands w (pth zs i)) := by
  obtain ⟨f0, hi0, hz0, hz1, hz2⟩ := info_parts Nts.info
  have hl := hr.len
  rw [pth_in i0 (by omega), pathOf_left (by omega) (by omega), hl]
  obtain ⟨m, hmm⟩ : ∃ m, Hid ((n + 1) / 2 = m) := ⟨_, rfl⟩
  rw [hmm.out] at i1 ⊢
  have hq : ((n : Int) + 1).tdiv 2 = (m : Int) := by rw [Int.tdiv_eq_ediv_of_nonneg (by omega), ← hmm.out]; omega
  have m0 : 0 < m := by have := hmm.out; omega
  have m1 : m < n := by have := hmm.out; omega
  have hmc : m ≤ c := by omega
  have hmn : m ≤ n := by omega
  have hcm : ¬ c = m := by omega
  have hn2 : decide ((n : Int) < 2) = false := by simp; omega
  have him : decide (i < (m : Int)) = true := by simp; omega
  have eA : part zs 0 m = zs.take m := by simp [part]
  have eB : part zs m n = zs.drop m := by unfold part; rw [List.take_of_length_le]; rw [List.length_drop]; omega
  have wB : (Lit.int .i64 (root (zs.drop m))).wf = true := root_wf (fun z hz => hr.wf z (List.mem_of_mem_drop hz))
  have lA := pth_len (zs.take m) i
  rw [List.length_take] at lA
  have hA : ∀ W, Below w.heap.size w W → Calls Try.prog 23 #[.slice (some ⟨b, off, none⟩) m c, .int .i64 i] W (Hands W (pth (zs.take m) i)) := fun W hW => by
    have := R lo hi m c i W (some ⟨b, off, none⟩) (zs.take m) m1 (by have := row_part (hr.below hW) (x := 0) (y := m) (Nat.zero_le _) (by omega); rw [eA] at this; exact this) (by omega) hm (by omega) wi
    exact this
  have hB : ∀ W, Below w.heap.size w W → Calls Try.prog 20 #[.slice (some ⟨b, off + m, none⟩) (n - m) (c - m)] W fun e w' => e = .returned (.int .i64 (root (zs.drop m))) ∧ Below W.heap.size W w' := fun W hW => by
    have := root_spec lo hi (n - m) (c - m) W (some ⟨b, off + m, none⟩) (zs.drop m) (by have := row_part (hr.below hW) (x := m) (y := n) (by omega) (Nat.le_refl _); rw [eB] at this; exact this) (by omega) (by omega) (by omega)
    exact this
  have eP : pathOf (zs.take m) i.toNat = pth (zs.take m) i := (pth_in i0 (by rw [List.length_take]; omega)).symm
  rw [eP]
  obtain ⟨ps, hx⟩ : ∃ ps, Hid (pth (zs.take m) i = ps) := ⟨_, rfl⟩
  obtain ⟨y, hy⟩ : ∃ y, Hid (root (zs.drop m) = y) := ⟨_, rfl⟩
  rw [hx.out] at hA lA ⊢
  rw [hy.out] at hB wB ⊢
  have hW0 : Below w.heap.size w (w.alloc (.cells #[] 3)) := by repeat' (first | exact Below.refl _ _ | assumption | refine Below.setCell ?_ ?_ _ | refine Below.alloc ?_ ?_ _ | refine Adr.below_drewN ?_ _ | refine Below.drew ?_ | exact Nat.le_refl _ | omega | (dsimp only; omega) | refine Adr.le_alloc ?_ | refine Adr.le_set ?_ | refine Adr.le_drewN ?_ | refine Adr.le_drew ?_)
  have hC := fun W => Range.l1_yes i 0 ((n : Int) - 1) W (by omega) (by omega)
  clear R hr hl eA eB h1 eP
  go_enter Try.func23, Try.ntmps23
  go_wp2_with fail
  go_at_call 44
  refine (hC _).mono ?_
  rintro e w1 ⟨rfl, rfl⟩
  go_wp2_with fail
  go_region_law (first
    | (go_simp; go_at_call 23; refine (hA _ ?_).mono ?_; (first | exact hW0 | exact hW0.drew | exact hW0.alloc hW0.size _); rintro e w9 ⟨v, rfl, ho, hb9⟩; have hW9 : Below w.heap.size w w9 := (by first | exact hW0.trans (hb9.mono hW0.size) | exact hW0.drew.trans (hb9.mono hW0.size) | exact (hW0.alloc hW0.size _).trans (hb9.mono (Nat.le_trans hW0.size (by simp)))); have ho := ownI_base ho (B' := w.heap.size) (by first | exact hW0.size | (have := hW0.size; simp; omega)); (first | (have hyc : w9.cell? ⟨_, 0, none⟩ = some (.int .i64 y) := (cell_of_heap (hb9.block _ hlt)).trans hyc) | skip); have hW0 := hW9; clear hW9)
    | (go_simp; go_at_call 20; refine (hB _ ?_).mono ?_; (first | exact hW0 | exact hW0.drew); rintro e w8 ⟨rfl, hb8⟩; have hW8 : Below w.heap.size w w8 := (by first | exact hW0.trans (hb8.mono hW0.size) | exact hW0.drew.trans (hb8.mono hW0.size)); (first | (have ho := (ho.below hb8).alloc (.cells #[.int .i64 y] 3)) | skip); have hW0 := hW8; clear hW8; have hyc : (w8.alloc (.cells #[.int .i64 y] 3)).cell? ⟨w8.heap.size, 0, none⟩ = some (.int .i64 y) := (by rw [World.cell?_alloc_at _ _ _ _ rfl]; rfl); have hlt : w8.heap.size < (w8.alloc (.cells #[.int .i64 y] 3)).heap.size := (by simp))
    | (refine step_append_one rfl _ _ 24 rfl w.heap.size 3 f0 _ 8 Try.underlying24 hi0 hz0 hz1 hz2 rfl _ ps.length ps rfl (by first | exact ho | exact ho.alloc _) _ 1 y rfl ?c2 ?c3 ?c4 ?c5 ?_; (case c2 => first | exact hyc | (rw [World.cell?_alloc_at _ _ _ _ rfl]; rfl)); (case c3 => unfold maxLen; omega); (case c4 => omega); (case c5 => have := hW0.size; simp; omega); intro v' w' ho3 hb3))
  all_goals
    go_wp2
    go_ret
    exact ⟨v', rfl, by rw [List.length_append]; exact ho3, by first | exact (hW0.alloc hW0.size _).trans hb3 | exact hW0.trans hb3⟩

set_option maxHeartbeats 4000000 in
set_option maxRecDepth 100000 in
theorem pathS_right (lo hi n c b off : Nat) (i : Int) (w : World) (zs : List Int) (R : PathsToS n) (hr : Row .i64 lo hi w (some ⟨b, off, none⟩) n zs) (h1 : ¬ n ≤ 1) (hc : n ≤ c) (hm : c ≤ maxLen) (hn : n ≤ 1000000000000) (wi : (Lit.int .i64 i).wf = true)
    (i0 : ((n + 1) / 2 : Nat) ≤ i) (i1 : i < n) :
    Calls Try.prog 23 #[.slice (some ⟨b, off, none⟩) n c, .int .i64 i] w (Hands w (pth zs i)) := by
  obtain ⟨f0, hi0, hz0, hz1, hz2⟩ := info_parts Nts.info
  have hl := hr.len
  rw [pth_in (by omega) (by omega), pathOf_right (by omega) (by omega) (by omega), hl]
  obtain ⟨m, hmm⟩ : ∃ m, Hid ((n + 1) / 2 = m) := ⟨_, rfl⟩
  rw [hmm.out] at i0 ⊢
  have hq : ((n : Int) + 1).tdiv 2 = (m : Int) := by rw [Int.tdiv_eq_ediv_of_nonneg (by omega), ← hmm.out]; omega
  have m0 : 0 < m := by have := hmm.out; omega
  have m1 : m < n := by have := hmm.out; omega
  have hmc : m ≤ c := by omega
  have hmn : m ≤ n := by omega
  have hcm : ¬ c = m := by omega
  have hn2 : decide ((n : Int) < 2) = false := by simp; omega
  have him : decide (i < (m : Int)) = false := by simp; omega
  have eA : part zs 0 m = zs.take m := by simp [part]
  have eB : part zs m n = zs.drop m := by unfold part; rw [List.take_of_length_le]; rw [List.length_drop]; omega
  have wB : (Lit.int .i64 (root (zs.take m))).wf = true := root_wf (fun z hz => hr.wf z (List.mem_of_mem_take hz))
  have lA := pth_len (zs.drop m) (i - m)
  rw [List.length_drop, hl] at lA
  have hA : ∀ W, Below w.heap.size w W → Calls Try.prog 23 #[.slice (some ⟨b, off + m, none⟩) (n - m) (c - m), .int .i64 (IntKind.i64.wrap (i - m))] W (Hands W (pth (zs.drop m) (i - m))) := fun W hW => by
    rw [show IntKind.i64.wrap (i - m) = i - m by rw [IntKind.wrap_i64]; omega]
    have := R lo hi (n - m) (c - m) (i - m) W (some ⟨b, off + m, none⟩) (zs.drop m) (by omega) (by have := row_part (hr.below hW) (x := m) (y := n) (by omega) (Nat.le_refl _); rw [eB] at this; exact this) (by omega) (by omega) (by omega) (WalkArith.wf_i64 (by omega))
    exact this
  have hB : ∀ W, Below w.heap.size w W → Calls Try.prog 20 #[.slice (some ⟨b, off, none⟩) m c] W fun e w' => e = .returned (.int .i64 (root (zs.take m))) ∧ Below W.heap.size W w' := fun W hW => by
    have := root_spec lo hi m c W (some ⟨b, off, none⟩) (zs.take m) (by have := row_part (hr.below hW) (x := 0) (y := m) (Nat.zero_le _) (by omega); rw [eA] at this; exact this) (by omega) hm (by omega)
    exact this
  have eP : pathOf (zs.drop m) (i.toNat - m) = pth (zs.drop m) (i - m) := by rw [pth_in (by omega) (by rw [List.length_drop]; omega)]; congr 1; omega
  rw [eP]
  obtain ⟨ps, hx⟩ : ∃ ps, Hid (pth (zs.drop m) (i - m) = ps) := ⟨_, rfl⟩
  obtain ⟨y, hy⟩ : ∃ y, Hid (root (zs.take m) = y) := ⟨_, rfl⟩
  rw [hx.out] at hA lA ⊢
  rw [hy.out] at hB wB ⊢
  have hW0 : Below w.heap.size w (w.alloc (.cells #[] 3)) := by repeat' (first | exact Below.refl _ _ | assumption | refine Below.setCell ?_ ?_ _ | refine Below.alloc ?_ ?_ _ | refine Adr.below_drewN ?_ _ | refine Below.drew ?_ | exact Nat.le_refl _ | omega | (dsimp only; omega) | refine Adr.le_alloc ?_ | refine Adr.le_set ?_ | refine Adr.le_drewN ?_ | refine Adr.le_drew ?_)
  have hC := fun W => Range.l1_yes i 0 ((n : Int) - 1) W (by omega) (by omega)
  clear R hr hl eA eB h1 eP
  go_enter Try.func23, Try.ntmps23
  go_wp2_with fail
  go_at_call 44
  refine (hC _).mono ?_
  rintro e w1 ⟨rfl, rfl⟩
  go_wp2_with fail
  go_region_law (first
    | (go_simp; go_at_call 23; refine (hA _ ?_).mono ?_; (first | exact hW0 | exact hW0.drew | exact hW0.alloc hW0.size _); rintro e w9 ⟨v, rfl, ho, hb9⟩; have hW9 : Below w.heap.size w w9 := (by first | exact hW0.trans (hb9.mono hW0.size) | exact hW0.drew.trans (hb9.mono hW0.size) | exact (hW0.alloc hW0.size _).trans (hb9.mono (Nat.le_trans hW0.size (by simp)))); have ho := ownI_base ho (B' := w.heap.size) (by first | exact hW0.size | (have := hW0.size; simp; omega)); (first | (have hyc : w9.cell? ⟨_, 0, none⟩ = some (.int .i64 y) := (cell_of_heap (hb9.block _ hlt)).trans hyc) | skip); have hW0 := hW9; clear hW9)
    | (go_simp; go_at_call 20; refine (hB _ ?_).mono ?_; (first | exact hW0 | exact hW0.drew); rintro e w8 ⟨rfl, hb8⟩; have hW8 : Below w.heap.size w w8 := (by first | exact hW0.trans (hb8.mono hW0.size) | exact hW0.drew.trans (hb8.mono hW0.size)); (first | (have ho := (ho.below hb8).alloc (.cells #[.int .i64 y] 3)) | skip); have hW0 := hW8; clear hW8; have hyc : (w8.alloc (.cells #[.int .i64 y] 3)).cell? ⟨w8.heap.size, 0, none⟩ = some (.int .i64 y) := (by rw [World.cell?_alloc_at _ _ _ _ rfl]; rfl); have hlt : w8.heap.size < (w8.alloc (.cells #[.int .i64 y] 3)).heap.size := (by simp))
    | (refine step_append_one rfl _ _ 24 rfl w.heap.size 3 f0 _ 8 Try.underlying24 hi0 hz0 hz1 hz2 rfl _ ps.length ps rfl (by first | exact ho | exact ho.alloc _) _ 1 y rfl ?c2 ?c3 ?c4 ?c5 ?_; (case c2 => first | exact hyc | (rw [World.cell?_alloc_at _ _ _ _ rfl]; rfl)); (case c3 => unfold maxLen; omega); (case c4 => omega); (case c5 => have := hW0.size; simp; omega); intro v' w' ho3 hb3))
  all_goals
    go_wp2
    go_ret
    exact ⟨v', rfl, by rw [List.length_append]; exact ho3, by first | exact (hW0.alloc hW0.size _).trans hb3 | exact hW0.trans hb3⟩

theorem pathsS (m : Nat) : PathsToS m := by
  induction m with
  | zero => intro lo hi n c i w a zs h; omega
  | succ m ih =>
    intro lo hi n c i w a zs h hr hc hm hn wi
    have hl := hr.len
    by_cases h0 : i < 0 ∨ (n : Int) ≤ i
    · rw [pth_out (by omega)]
      exact pathS_out n c i w a zs h0 hn
    · by_cases h1 : n ≤ 1
      · rw [pth_in (by omega) (by omega), pathOf_small (by omega)]
        exact pathS_one n c i w a (by omega) (by omega) h1
      · obtain ⟨b, off, rfl, _⟩ := hr.here (by omega)
        have R : PathsToS n := fun lo hi n' c i w a zs h' => ih lo hi n' c i w a zs (by omega)
        by_cases h2 : i < ((n + 1) / 2 : Nat)
        · exact pathS_left lo hi n c b off i w zs R hr h1 hc hm hn wi (by omega) h2
        · exact pathS_right lo hi n c b off i w zs R hr h1 hc hm hn wi (by omega) (by omega)
theorem path_spec (lo hi n c : Nat) (i : Int) (w : World) (a : Option Addr) (zs : List Int) (hr : Row .i64 lo hi w a n zs) (hc : n ≤ c) (hm : c ≤ maxLen) (hn : n ≤ 1000000000000) (wi : (Lit.int .i64 i).wf = true) :
    Calls Try.prog 23 #[.slice a n c, .int .i64 i] w (Hands w (pth zs i)) :=
  pathsS (n + 1) lo hi n c i w a zs (Nat.lt_succ_self _) hr hc hm hn wi
end Go.Proofs.Ytggfpjcfjcoaiaa.Tre
