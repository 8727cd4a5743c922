/-
  Numbers of a body in range: the program's allInRange at 0 and 255, the model's l5Bytes. Whether a resource is valid: the program, which sees it by its kind (four types behind an interface), and the model. Whether a resource is valid: the model.
  Conditions: as each theorem states them.
-/
import Derived.Test.YtagnhfalmefbhaaInts
import Derived.Test.YtagnhfalmefbhaaRange
import Derived.Test.YtagnhfalmefbhaaMaths
import Derived.Test.YtagnhfalmefbhaaRes
import Derived.Handy
namespace Go.Proofs.Ytagnhfalmefbhaa.Res
open Go Go.RowKit Go.Proofs.Ytagnhfalmefbhaa.Mem Go.Proofs.Ytagnhfalmefbhaa.Range

def inB (z : Int) : Bool := decide (0 ≤ z ∧ z ≤ 255)
def allB (zs : List Int) : Bool := zs.all inB
theorem drop_at' {zs : List Int} {p : Nat} (h : p < zs.length) : zs.drop p = zs.getD p 0 :: zs.drop (p + 1) := by
  rw [List.drop_eq_getElem_cons h, List.getD_eq_getElem?_getD, List.getElem?_eq_getElem h]; rfl
theorem allB_next {zs : List Int} {j : Nat} {R : Bool} (h : allB (zs.drop j) = R) (hj : j < zs.length) (h0 : 0 ≤ zs.getD j 0) (h1 : zs.getD j 0 ≤ 255) : allB (zs.drop (j + 1)) = R := by
  rw [drop_at' hj] at h
  generalize zs.getD j 0 = z at h h0 h1
  simpa [allB, inB, h0, h1] using h
theorem allB_no {zs : List Int} {j : Nat} {R : Bool} (h : allB (zs.drop j) = R) (hj : j < zs.length) (h0 : zs.getD j 0 < 0 ∨ 255 < zs.getD j 0) : R = false := by
  rw [drop_at' hj] at h
  rw [← h]
  generalize zs.getD j 0 = z at h0
  simp [allB, inB]
  intro a b
  omega
theorem allB_end {zs : List Int} {j : Nat} {R : Bool} (h : allB (zs.drop j) = R) (hj : zs.length ≤ j) : R = true := by
  rw [List.drop_of_length_le hj] at h
  rw [← h]; rfl

set_option maxHeartbeats 800000 in
set_option maxRecDepth 100000 in
theorem bytes_spec (lo hi : Nat) (w : World) (a : Option Addr) (n c : Nat) (zs : List Int) (hr : Row .i64 lo hi w a n zs) (hn : n ≤ 9223372036854775807) :
    Calls Try.prog 85 #[.slice a n c] w fun e w' => e = .returned (.bool (allB zs)) ∧ Below w.heap.size w w' := by
  obtain ⟨R, hR⟩ : ∃ R, allB zs = R := ⟨_, rfl⟩
  rw [hR]
  have hl := Lib.hid hr.len
  have HR : Hid (allB (zs.drop 0) = R) := by rw [List.drop_zero]; exact hR
  clear hR
  go_enter Try.func85, Try.ntmps85
  go_wp2
  go_loopw [3] (fun i wr => ∃ j m : Nat, j ≤ n ∧ i = .int .i64 j ∧ wr = w.drewN m ∧ Hid (allB (zs.drop j) = R)) (fun i _ => n - (intOf i).toNat)
  case atStart => exact ⟨0, 0, Nat.zero_le _, rfl, rfl, HR⟩
  case round =>
    obtain ⟨j, m, hj, rfl, rfl, hq⟩ := hrel
    by_cases hlt : j < n
    · obtain ⟨b, o, rfl, _, _, hc⟩ := (hr.drewN m).cell hlt
      by_cases hin : 0 ≤ zs.getD j 0 ∧ zs.getD j 0 ≤ 255
      · have hq1 := Lib.hid (allB_next hq.out (by rw [hl.out]; exact hlt) hin.1 hin.2)
        have hI := fun W => l1_yes (zs.getD j 0) 0 255 W hin.1 hin.2
        go_wp2_with (go_at_call 41; refine (hI _).mono ?_; rintro e w1 ⟨rfl, rfl⟩)
        go_roundw
        case rel => exact ⟨j + 1, _, by omega, by go_num, rfl, hq1⟩
        case measure => simp [intOf]; omega
      · have hf := allB_no hq.out (by rw [hl.out]; exact hlt) (by omega)
        have hI := fun W => l1_no (zs.getD j 0) 0 255 W (by omega)
        go_wp2_with (go_at_call 41; refine (hI _).mono ?_; rintro e w1 ⟨rfl, rfl⟩)
        go_ret
        subst hf
        exact ⟨rfl, Mem.below_drewN (Below.refl _ _) _⟩
    · have hd : decide ((j : Int) < (n : Int)) = false := by simp; omega
      have ht := allB_end hq.out (by rw [hl.out]; omega)
      go_wp2
      go_ret
      subst ht
      exact ⟨rfl, Mem.below_drewN (Below.refl _ _) _⟩

set_option maxHeartbeats 800000 in
set_option maxRecDepth 100000 in
theorem bytes_impl (lo hi : Nat) (w : World) (a : Option Addr) (n c : Nat) (zs : List Int) (hr : Row .i64 lo hi w a n zs) (hn : n ≤ 9223372036854775807) :
    Calls Try.prog 39 #[.slice a n c, .int .i64 0, .int .i64 255] w fun e w' => e = .returned (.bool (allB zs)) ∧ Below w.heap.size w w' := by
  obtain ⟨R, hR⟩ : ∃ R, allB zs = R := ⟨_, rfl⟩
  rw [hR]
  have hl := Lib.hid hr.len
  have HR : Hid (allB (zs.drop 0) = R) := by rw [List.drop_zero]; exact hR
  clear hR
  go_enter Try.func39, Try.ntmps39
  go_wp2
  go_loopw [8, 11] (fun v i wr => ∃ j m : Nat, j ≤ n ∧ i = .int .i64 j ∧ wr = w.drewN m ∧ Hid (allB (zs.drop j) = R)) (fun _ i _ => n - (intOf i).toNat)
  case atStart => exact ⟨0, 0, Nat.zero_le _, rfl, rfl, HR⟩
  case round =>
    obtain ⟨j, m, hj, rfl, rfl, hq⟩ := hrel
    by_cases hlt : j < n
    · obtain ⟨b, o, rfl, _, _, hc⟩ := (hr.drewN m).cell hlt
      by_cases hin : 0 ≤ zs.getD j 0 ∧ zs.getD j 0 ≤ 255
      · have hq1 := Lib.hid (allB_next hq.out (by rw [hl.out]; exact hlt) hin.1 hin.2)
        have hI := fun W => in_yes (zs.getD j 0) 0 255 W hin.1 hin.2
        go_wp2_with (go_at_call 37; refine (hI _).mono ?_; rintro e w1 ⟨rfl, rfl⟩)
        go_roundw
        case rel => exact ⟨j + 1, _, by omega, by go_num, rfl, hq1⟩
        case measure => simp [intOf]; omega
      · have hf := allB_no hq.out (by rw [hl.out]; exact hlt) (by omega)
        have hI := fun W => in_no (zs.getD j 0) 0 255 W (by omega)
        go_wp2_with (go_at_call 37; refine (hI _).mono ?_; rintro e w1 ⟨rfl, rfl⟩)
        go_ret
        subst hf
        exact ⟨rfl, Mem.below_drewN (Below.refl _ _) _⟩
    · have hd : decide ((j : Int) < (n : Int)) = false := by simp; omega
      have ht := allB_end hq.out (by rw [hl.out]; omega)
      go_wp2
      go_ret
      subst ht
      exact ⟨rfl, Mem.below_drewN (Below.refl _ _) _⟩
end Go.Proofs.Ytagnhfalmefbhaa.Res
namespace Go.Proofs.Ytagnhfalmefbhaa.Res
open Go Go.RowKit Go.Proofs.Ytagnhfalmefbhaa.Mem Go.Proofs.Ytagnhfalmefbhaa.Adr Go.Proofs.Ytagnhfalmefbhaa.Range

def zero3 (h p q : Int) : Bool := decide (h = 0 ∧ p = 0 ∧ q = 0)
theorem zero3_yes : zero3 0 0 0 = true := rfl
theorem zero3_no {h p q : Int} (e : ¬ (h = 0 ∧ p = 0 ∧ q = 0)) : zero3 h p q = false := by unfold zero3; exact decide_eq_false e
/-- Whether a resource is valid. -/
def okR (k h p q : Int) (n : Nat) (zs : List Int) : Bool :=
  if k = 1 ∨ k = 2 then decide (n ≤ 6) && (allB zs && zero3 h p q) else if k = 3 then decide (n = 0) && okA h p q else if k = 4 then decide (n = 0) && zero3 h p q else false

set_option maxRecDepth 100000 in
theorem answer_content (k h p q : Int) (w : World) (a : Option Addr) (n c : Nat) (hk : k = 1 ∨ k = 2) :
    Calls Try.prog 45 #[(Value.agg #[Value.int IntKind.i64 (k), Value.slice (a) (n) (c), Value.int IntKind.i64 (h), Value.int IntKind.i64 (p), Value.int IntKind.i64 (q)])] w fun e w' => e = .returned (.iface 79 (Value.agg #[Value.int IntKind.i64 (k), Value.slice (a) (n) (c), Value.int IntKind.i64 (h), Value.int IntKind.i64 (p), Value.int IntKind.i64 (q)])) ∧ Below w.heap.size w w' := by
  rcases hk with rfl | rfl
  all_goals
    go_enter Try.func45, Try.ntmps45
    go_wp2
    go_ret
    exact ⟨rfl, by repeat' (first | exact Below.refl _ _ | assumption | refine Below.setCell ?_ ?_ _ | refine Below.alloc ?_ ?_ _ | refine Adr.below_drewN ?_ _ | refine Below.drew ?_ | exact Nat.le_refl _ | omega | (dsimp only; omega) | refine Adr.le_alloc ?_ | refine Adr.le_set ?_ | refine Adr.le_drewN ?_ | refine Adr.le_drew ?_)⟩
set_option maxRecDepth 100000 in
theorem answer_move (h p q : Int) (w : World) (a : Option Addr) (n c : Nat) :
    Calls Try.prog 45 #[(Value.agg #[Value.int IntKind.i64 (3), Value.slice (a) (n) (c), Value.int IntKind.i64 (h), Value.int IntKind.i64 (p), Value.int IntKind.i64 (q)])] w fun e w' => e = .returned (.iface 114 (Value.agg #[Value.int IntKind.i64 (3), Value.slice (a) (n) (c), Value.int IntKind.i64 (h), Value.int IntKind.i64 (p), Value.int IntKind.i64 (q)])) ∧ Below w.heap.size w w' := by
  go_enter Try.func45, Try.ntmps45
  go_wp2
  go_ret
  exact ⟨rfl, by repeat' (first | exact Below.refl _ _ | assumption | refine Below.setCell ?_ ?_ _ | refine Below.alloc ?_ ?_ _ | refine Adr.below_drewN ?_ _ | refine Below.drew ?_ | exact Nat.le_refl _ | omega | (dsimp only; omega) | refine Adr.le_alloc ?_ | refine Adr.le_set ?_ | refine Adr.le_drewN ?_ | refine Adr.le_drew ?_)⟩
set_option maxRecDepth 100000 in
theorem answer_absence (h p q : Int) (w : World) (a : Option Addr) (n c : Nat) :
    Calls Try.prog 45 #[(Value.agg #[Value.int IntKind.i64 (4), Value.slice (a) (n) (c), Value.int IntKind.i64 (h), Value.int IntKind.i64 (p), Value.int IntKind.i64 (q)])] w fun e w' => e = .returned (.iface 115 (Value.agg #[Value.int IntKind.i64 (4), Value.slice (a) (n) (c), Value.int IntKind.i64 (h), Value.int IntKind.i64 (p), Value.int IntKind.i64 (q)])) ∧ Below w.heap.size w w' := by
  go_enter Try.func45, Try.ntmps45
  go_wp2
  go_ret
  exact ⟨rfl, by repeat' (first | exact Below.refl _ _ | assumption | refine Below.setCell ?_ ?_ _ | refine Below.alloc ?_ ?_ _ | refine Adr.below_drewN ?_ _ | refine Below.drew ?_ | exact Nat.le_refl _ | omega | (dsimp only; omega) | refine Adr.le_alloc ?_ | refine Adr.le_set ?_ | refine Adr.le_drewN ?_ | refine Adr.le_drew ?_)⟩
set_option maxRecDepth 100000 in
theorem answer_stray (k h p q : Int) (w : World) (a : Option Addr) (n c : Nat) (hk : ¬ (k = 1 ∨ k = 2)) (h3 : ¬ k = 3) (h4 : ¬ k = 4) :
    Calls Try.prog 45 #[(Value.agg #[Value.int IntKind.i64 (k), Value.slice (a) (n) (c), Value.int IntKind.i64 (h), Value.int IntKind.i64 (p), Value.int IntKind.i64 (q)])] w fun e w' => e = .returned (.iface 116 (Value.agg #[Value.int IntKind.i64 (k), Value.slice (a) (n) (c), Value.int IntKind.i64 (h), Value.int IntKind.i64 (p), Value.int IntKind.i64 (q)])) ∧ Below w.heap.size w w' := by
  have k1 : ¬ k = 1 := fun e => hk (Or.inl e)
  have k2 : ¬ k = 2 := fun e => hk (Or.inr e)
  clear hk
  go_enter Try.func45, Try.ntmps45
  go_wp2
  go_ret
  exact ⟨rfl, by repeat' (first | exact Below.refl _ _ | assumption | refine Below.setCell ?_ ?_ _ | refine Below.alloc ?_ ?_ _ | refine Adr.below_drewN ?_ _ | refine Below.drew ?_ | exact Nat.le_refl _ | omega | (dsimp only; omega) | refine Adr.le_alloc ?_ | refine Adr.le_set ?_ | refine Adr.le_drewN ?_ | refine Adr.le_drew ?_)⟩

set_option maxHeartbeats 800000 in
set_option maxRecDepth 100000 in
theorem sound_content (lo hi : Nat) (k h p q : Int) (w : World) (a : Option Addr) (n c : Nat) (zs : List Int) (hr : Row .i64 lo hi w a n zs) :
    Calls Try.prog 46 #[(Value.agg #[Value.int IntKind.i64 (k), Value.slice (a) (n) (c), Value.int IntKind.i64 (h), Value.int IntKind.i64 (p), Value.int IntKind.i64 (q)])] w fun e w' => e = .returned (.bool (decide (n ≤ 6) && (allB zs && zero3 h p q))) ∧ Below w.heap.size w w' := by
  have hB : Below w.heap.size w (w.alloc (.cells #[.int .i64 k, .slice a n c, .int .i64 h, .int .i64 p, .int .i64 q] 79)) := by repeat' (first | exact Below.refl _ _ | assumption | refine Below.setCell ?_ ?_ _ | refine Below.alloc ?_ ?_ _ | refine Adr.below_drewN ?_ _ | refine Below.drew ?_ | exact Nat.le_refl _ | omega | (dsimp only; omega) | refine Adr.le_alloc ?_ | refine Adr.le_set ?_ | refine Adr.le_drewN ?_ | refine Adr.le_drew ?_)
  have Q := Quint.new 79 (.int .i64 k) (.slice a n c) (.int .i64 h) (.int .i64 p) (.int .i64 q) w
  by_cases h6 : n ≤ 6
  · have hE := bytes_impl lo hi _ a n c zs (hr.below hB) (by omega)
    have d6 : decide ((n : Int) ≤ 6) = true := by simp; omega
    rw [decide_eq_true h6, Bool.true_and]
    cases hb : allB zs
    · rw [hb] at hE
      rw [Bool.false_and]
      go_enter Try.func46, Try.ntmps46
      go_wp2_with fail
      go_at_call 39
      refine hE.mono ?_
      rintro e w1 ⟨rfl, hb1⟩
      go_wp2
      go_ret
      exact ⟨rfl, hB.trans (hb1.mono hB.size)⟩
    · rw [hb] at hE
      rw [Bool.true_and]
      go_enter Try.func46, Try.ntmps46
      go_wp2_with fail
      go_at_call 39
      refine hE.mono ?_
      rintro e w1 ⟨rfl, hb1⟩
      obtain ⟨q0, q1, q2, q3, q4⟩ := (Q.below hb1).cells
      go_wp2
      all_goals
        go_ret
        exact ⟨by simp [zero3, *], hB.trans (hb1.mono hB.size)⟩
  · have d6 : decide ((n : Int) ≤ 6) = false := by simp; omega
    rw [decide_eq_false h6, Bool.false_and]
    go_enter Try.func46, Try.ntmps46
    go_wp2
    go_ret
    exact ⟨rfl, hB⟩

set_option maxHeartbeats 800000 in
set_option maxRecDepth 100000 in
theorem sound_move (k h p q : Int) (w : World) (a : Option Addr) (n c : Nat) :
    Calls Try.prog 121 #[(Value.agg #[Value.int IntKind.i64 (k), Value.slice (a) (n) (c), Value.int IntKind.i64 (h), Value.int IntKind.i64 (p), Value.int IntKind.i64 (q)])] w fun e w' => e = .returned (.bool (decide (n = 0) && okA h p q)) ∧ Below w.heap.size w w' := by
  have hB : Below w.heap.size w (w.alloc (.cells #[.int .i64 k, .slice a n c, .int .i64 h, .int .i64 p, .int .i64 q] 114)) := by repeat' (first | exact Below.refl _ _ | assumption | refine Below.setCell ?_ ?_ _ | refine Below.alloc ?_ ?_ _ | refine Adr.below_drewN ?_ _ | refine Below.drew ?_ | exact Nat.le_refl _ | omega | (dsimp only; omega) | refine Adr.le_alloc ?_ | refine Adr.le_set ?_ | refine Adr.le_drewN ?_ | refine Adr.le_drew ?_)
  by_cases h0 : n = 0
  · subst h0
    rw [show decide ((0 : Nat) = 0) = true from rfl, Bool.true_and]
    go_enter Try.func121, Try.ntmps121
    go_wp2_with fail
    go_at_call 94
    refine (is_impl h p q _).mono ?_
    rintro e w1 ⟨rfl, hb1⟩
    go_wp2
    go_ret
    exact ⟨rfl, hB.trans (hb1.mono hB.size)⟩
  · have d0 : ¬ ((n : Int) = 0) := by omega
    rw [decide_eq_false h0, Bool.false_and]
    go_enter Try.func121, Try.ntmps121
    go_wp2
    go_ret
    exact ⟨rfl, hB⟩

set_option maxHeartbeats 800000 in
set_option maxRecDepth 100000 in
theorem sound_absence (k h p q : Int) (w : World) (a : Option Addr) (n c : Nat) :
    Calls Try.prog 122 #[(Value.agg #[Value.int IntKind.i64 (k), Value.slice (a) (n) (c), Value.int IntKind.i64 (h), Value.int IntKind.i64 (p), Value.int IntKind.i64 (q)])] w fun e w' => e = .returned (.bool (decide (n = 0) && zero3 h p q)) ∧ Below w.heap.size w w' := by
  by_cases h0 : n = 0
  · subst h0
    rw [show decide ((0 : Nat) = 0) = true from rfl, Bool.true_and]
    go_enter Try.func122, Try.ntmps122
    go_wp2
    all_goals
      go_ret
      exact ⟨by simp [zero3, *], by repeat' (first | exact Below.refl _ _ | assumption | refine Below.setCell ?_ ?_ _ | refine Below.alloc ?_ ?_ _ | refine Adr.below_drewN ?_ _ | refine Below.drew ?_ | exact Nat.le_refl _ | omega | (dsimp only; omega) | refine Adr.le_alloc ?_ | refine Adr.le_set ?_ | refine Adr.le_drewN ?_ | refine Adr.le_drew ?_)⟩
  · have d0 : ¬ ((n : Int) = 0) := by omega
    rw [decide_eq_false h0, Bool.false_and]
    go_enter Try.func122, Try.ntmps122
    go_wp2
    go_ret
    exact ⟨rfl, by repeat' (first | exact Below.refl _ _ | assumption | refine Below.setCell ?_ ?_ _ | refine Below.alloc ?_ ?_ _ | refine Adr.below_drewN ?_ _ | refine Below.drew ?_ | exact Nat.le_refl _ | omega | (dsimp only; omega) | refine Adr.le_alloc ?_ | refine Adr.le_set ?_ | refine Adr.le_drewN ?_ | refine Adr.le_drew ?_)⟩

set_option maxRecDepth 100000 in
theorem sound_stray (k h p q : Int) (w : World) (a : Option Addr) (n c : Nat) :
    Calls Try.prog 123 #[(Value.agg #[Value.int IntKind.i64 (k), Value.slice (a) (n) (c), Value.int IntKind.i64 (h), Value.int IntKind.i64 (p), Value.int IntKind.i64 (q)])] w fun e w' => e = .returned (.bool false) ∧ Below w.heap.size w w' := by
  go_enter Try.func123, Try.ntmps123
  go_wp2
  go_ret
  exact ⟨rfl, by repeat' (first | exact Below.refl _ _ | assumption | refine Below.setCell ?_ ?_ _ | refine Below.alloc ?_ ?_ _ | refine Adr.below_drewN ?_ _ | refine Below.drew ?_ | exact Nat.le_refl _ | omega | (dsimp only; omega) | refine Adr.le_alloc ?_ | refine Adr.le_set ?_ | refine Adr.le_drewN ?_ | refine Adr.le_drew ?_)⟩

set_option maxHeartbeats 800000 in
set_option maxRecDepth 100000 in
theorem valid_impl (lo hi : Nat) (k h p q : Int) (w : World) (a : Option Addr) (n c : Nat) (zs : List Int) (hr : Row .i64 lo hi w a n zs) :
    Calls Try.prog 16 #[(Value.agg #[Value.int IntKind.i64 (k), Value.slice (a) (n) (c), Value.int IntKind.i64 (h), Value.int IntKind.i64 (p), Value.int IntKind.i64 (q)])] w fun e w' => e = .returned (.bool (okR k h p q n zs)) ∧ Below w.heap.size w w' := by
  have hB : Below w.heap.size w (w.alloc (.cells #[.int .i64 k, .slice a n c, .int .i64 h, .int .i64 p, .int .i64 q] 39)) := by repeat' (first | exact Below.refl _ _ | assumption | refine Below.setCell ?_ ?_ _ | refine Below.alloc ?_ ?_ _ | refine Adr.below_drewN ?_ _ | refine Below.drew ?_ | exact Nat.le_refl _ | omega | (dsimp only; omega) | refine Adr.le_alloc ?_ | refine Adr.le_set ?_ | refine Adr.le_drewN ?_ | refine Adr.le_drew ?_)
  unfold okR
  by_cases h12 : k = 1 ∨ k = 2
  · rw [if_pos h12]
    go_enter Try.func16, Try.ntmps16
    go_wp2_with fail
    go_at_call 45
    refine (answer_content k h p q _ a n c h12).mono ?_
    rintro e w1 ⟨rfl, hb1⟩
    have hB1 := hB.trans (hb1.mono hB.size)
    go_wp2_with fail
    go_at_call 46
    refine (sound_content lo hi k h p q _ a n c zs (hr.below hB1)).mono ?_
    rintro e w2 ⟨rfl, hb2⟩
    go_wp2
    go_ret
    exact ⟨rfl, hB1.trans (hb2.mono hB1.size)⟩
  · rw [if_neg h12]
    by_cases h3 : k = 3
    · subst h3
      rw [if_pos rfl]
      go_enter Try.func16, Try.ntmps16
      go_wp2_with fail
      go_at_call 45
      refine (answer_move h p q _ a n c).mono ?_
      rintro e w1 ⟨rfl, hb1⟩
      have hB1 := hB.trans (hb1.mono hB.size)
      go_wp2_with fail
      go_at_call 121
      refine (sound_move 3 h p q _ a n c).mono ?_
      rintro e w2 ⟨rfl, hb2⟩
      go_wp2
      go_ret
      exact ⟨rfl, hB1.trans (hb2.mono hB1.size)⟩
    · rw [if_neg h3]
      by_cases h4 : k = 4
      · subst h4
        rw [if_pos rfl]
        go_enter Try.func16, Try.ntmps16
        go_wp2_with fail
        go_at_call 45
        refine (answer_absence h p q _ a n c).mono ?_
        rintro e w1 ⟨rfl, hb1⟩
        have hB1 := hB.trans (hb1.mono hB.size)
        go_wp2_with fail
        go_at_call 122
        refine (sound_absence 4 h p q _ a n c).mono ?_
        rintro e w2 ⟨rfl, hb2⟩
        go_wp2
        go_ret
        exact ⟨rfl, hB1.trans (hb2.mono hB1.size)⟩
      · rw [if_neg h4]
        go_enter Try.func16, Try.ntmps16
        go_wp2_with fail
        go_at_call 45
        refine (answer_stray k h p q _ a n c h12 h3 h4).mono ?_
        rintro e w1 ⟨rfl, hb1⟩
        have hB1 := hB.trans (hb1.mono hB.size)
        go_wp2_with fail
        go_at_call 123
        refine (sound_stray k h p q _ a n c).mono ?_
        rintro e w2 ⟨rfl, hb2⟩
        go_wp2
        go_ret
        exact ⟨rfl, hB1.trans (hb2.mono hB1.size)⟩
end Go.Proofs.Ytagnhfalmefbhaa.Res
namespace Go.Proofs.Ytagnhfalmefbhaa.Res
open Go Go.RowKit Go.Proofs.Ytagnhfalmefbhaa.Mem Go.Proofs.Ytagnhfalmefbhaa.Adr Go.Proofs.Ytagnhfalmefbhaa.Range

theorem okR_out {k h p q : Int} {n : Nat} {zs : List Int} (e : k < 1 ∨ 4 < k) : okR k h p q n zs = false := by
  unfold okR; rw [if_neg (by omega), if_neg (by omega), if_neg (by omega)]
theorem okR_move {h p q : Int} {n : Nat} {zs : List Int} : okR 3 h p q n zs = (decide (n = 0) && okA h p q) := by
  unfold okR; rw [if_neg (by omega), if_pos rfl]
theorem okR_none {h p q : Int} {n : Nat} {zs : List Int} : okR 4 h p q n zs = (decide (n = 0) && zero3 h p q) := by
  unfold okR; rw [if_neg (by omega), if_neg (by omega), if_pos rfl]
theorem okR_content {k h p q : Int} {n : Nat} {zs : List Int} (e : k = 1 ∨ k = 2) : okR k h p q n zs = (decide (n ≤ 6) && (allB zs && zero3 h p q)) := by
  unfold okR; rw [if_pos e]
theorem okR_long {k h p q : Int} {n : Nat} {zs : List Int} (e : 6 < n) : okR k h p q n zs = false := by
  unfold okR
  rw [decide_eq_false (show ¬ n ≤ 6 by omega), decide_eq_false (show ¬ n = 0 by omega)]
  simp
theorem okR_bad {k h p q : Int} {n : Nat} {zs : List Int} (e : allB zs = false) (hl : zs.length = n) : okR k h p q n zs = false := by
  have h0 : ¬ n = 0 := by
    intro h0
    rw [h0] at hl
    rw [List.eq_nil_of_length_eq_zero hl] at e
    cases e
  unfold okR
  rw [e, decide_eq_false h0]
  simp

theorem beq0 (n : Nat) : ((n : Int) == 0) = decide (n = 0) := by rw [Bool.eq_iff_iff]; simp

set_option maxHeartbeats 1600000 in
set_option maxRecDepth 100000 in
theorem valid_spec (lo hi : Nat) (k h p q : Int) (w : World) (a : Option Addr) (n c : Nat) (zs : List Int) (hr : Row .i64 lo hi w a n zs) (hn : n ≤ 1048576) :
    Calls Try.prog 55 #[(Value.agg #[Value.int IntKind.i64 (k), Value.slice (a) (n) (c), Value.int IntKind.i64 (h), Value.int IntKind.i64 (p), Value.int IntKind.i64 (q)])] w fun e w' => e = .returned (.bool (okR k h p q n zs)) ∧ Below w.heap.size w w' := by
  have hB : Below w.heap.size w (w.alloc (.cells #[.int .i64 k, .slice a n c, .int .i64 h, .int .i64 p, .int .i64 q] 39)) := by repeat' (first | exact Below.refl _ _ | assumption | refine Below.setCell ?_ ?_ _ | refine Below.alloc ?_ ?_ _ | refine Adr.below_drewN ?_ _ | refine Below.drew ?_ | exact Nat.le_refl _ | omega | (dsimp only; omega) | refine Adr.le_alloc ?_ | refine Adr.le_set ?_ | refine Adr.le_drewN ?_ | refine Adr.le_drew ?_)
  have Q := Quint.new 39 (.int .i64 k) (.slice a n c) (.int .i64 h) (.int .i64 p) (.int .i64 q) w
  have hE := bytes_spec lo hi _ a n c zs (hr.below hB) (by omega)
  have hl := hr.len
  clear hr
  by_cases hk : 1 ≤ k ∧ k ≤ 4
  rotate_left
  · have hI := fun W => l1_no k 1 4 W (by omega)
    rw [okR_out (by omega)]
    go_enter Try.func55, Try.ntmps55
    go_wp2_with (go_at_call 41; refine (hI _).mono ?_; rintro e w1 ⟨rfl, rfl⟩)
    go_ret
    exact ⟨rfl, hB⟩
  have hI := fun W => l1_yes k 1 4 W hk.1 hk.2
  cases hb : allB zs
  · rw [okR_bad hb hl]
    rw [hb] at hE
    go_enter Try.func55, Try.ntmps55
    go_wp2_with (first | (go_at_call 41; refine (hI _).mono ?_; rintro e w1 ⟨rfl, rfl⟩) | (go_at_call 85; refine hE.mono ?_; rintro e w1 ⟨rfl, hb1⟩))
    go_ret
    exact ⟨rfl, hB.trans (hb1.mono hB.size)⟩
  rw [hb] at hE
  by_cases h6 : 6 < n
  · rw [okR_long h6]
    have d6 : decide ((n : Int) > 6) = true := by simp; omega
    have d6' : decide (6 < (n : Int)) = true := by simp; omega
    go_enter Try.func55, Try.ntmps55
    go_wp2_with fail
    go_at_call 41; refine (hI _).mono ?_; rintro e w1 ⟨rfl, rfl⟩
    go_wp2_with fail
    go_at_call 85; refine hE.mono ?_; rintro e w1 ⟨rfl, hb1⟩
    obtain ⟨q0, q1, q2, q3, q4⟩ := (Q.below hb1).cells
    go_wp2
    go_ret
    exact ⟨rfl, hB.trans (hb1.mono hB.size)⟩
  have d6 : decide (6 < (n : Int)) = false := by simp; omega
  by_cases h3 : k = 3
  · subst h3
    rw [okR_move]
    cases hA : okA h p q
    · rw [Bool.and_false]
      go_enter Try.func55, Try.ntmps55
      go_wp2_with fail
      go_at_call 41; refine (hI _).mono ?_; rintro e w1 ⟨rfl, rfl⟩
      go_wp2_with fail
      go_at_call 85; refine hE.mono ?_; rintro e w1 ⟨rfl, hb1⟩
      obtain ⟨q0, q1, q2, q3, q4⟩ := (Q.below hb1).cells
      have hB1 := hB.trans (hb1.mono hB.size)
      go_wp2_with fail
      go_at_call 75; refine (is_spec h p q _).mono ?_; rw [hA]; rintro e w2 ⟨rfl, hb2⟩
      go_wp2
      go_ret
      exact ⟨rfl, hB1.trans (hb2.mono hB1.size)⟩
    · rw [Bool.and_true]
      go_enter Try.func55, Try.ntmps55
      go_wp2_with fail
      go_at_call 41; refine (hI _).mono ?_; rintro e w1 ⟨rfl, rfl⟩
      go_wp2_with fail
      go_at_call 85; refine hE.mono ?_; rintro e w1 ⟨rfl, hb1⟩
      have Q1 := Q.below hb1
      obtain ⟨q0, q1, q2, q3, q4⟩ := Q1.cells
      have hB1 := hB.trans (hb1.mono hB.size)
      go_wp2_with fail
      go_at_call 75; refine (is_spec h p q _).mono ?_; rw [hA]; rintro e w2 ⟨rfl, hb2⟩
      obtain ⟨r0, r1, r2, r3, r4⟩ := (Q1.below hb2).cells
      go_wp2
      go_ret
      exact ⟨by simp [beq0], hB1.trans (hb2.mono hB1.size)⟩
  · by_cases h4 : k = 4
    · subst h4
      rw [okR_none]
      go_enter Try.func55, Try.ntmps55
      go_wp2_with fail
      go_at_call 41; refine (hI _).mono ?_; rintro e w1 ⟨rfl, rfl⟩
      go_wp2_with fail
      go_at_call 85; refine hE.mono ?_; rintro e w1 ⟨rfl, hb1⟩
      obtain ⟨q0, q1, q2, q3, q4⟩ := (Q.below hb1).cells
      have hB1 := hB.trans (hb1.mono hB.size)
      go_wp2
      all_goals
        go_ret
        exact ⟨by simp [zero3, beq0, *], hB1⟩
    · rw [okR_content (by omega), hb, decide_eq_true (show n ≤ 6 by omega), Bool.true_and, Bool.true_and]
      go_enter Try.func55, Try.ntmps55
      go_wp2_with fail
      go_at_call 41; refine (hI _).mono ?_; rintro e w1 ⟨rfl, rfl⟩
      go_wp2_with fail
      go_at_call 85; refine hE.mono ?_; rintro e w1 ⟨rfl, hb1⟩
      obtain ⟨q0, q1, q2, q3, q4⟩ := (Q.below hb1).cells
      have hB1 := hB.trans (hb1.mono hB.size)
      go_wp2
      all_goals
        go_ret
        exact ⟨by simp [zero3, *], hB1⟩
end Go.Proofs.Ytagnhfalmefbhaa.Res
