/-
  The exact laws' helpers at a slice of integers, in the words for data of any depth.
  Conditions: the integers lie in memory.
-/
import Derived.Test.YtagnhfalmefbhaaData
import Derived.Test.YtagnhfalmefbhaaInts
namespace Go.Proofs.Ytagnhfalmefbhaa.Gen
open Go Go.RowKit Go.Proofs.Ytagnhfalmefbhaa.Mem

section
variable {lo hi : Nat} {w : World} {zs : List Int} {v : Value}
theorem gto_IntS (h : Lies lo hi w (ints zs) v) (hh : hi ≤ w.heap.size) (hm : room (ints zs) ≤ 1099511627776) :
    Calls Try.prog 52 #[v] w (Given w.heap.size (ints zs) w) := by
  obtain ⟨A, c, rfl, h1, h2, hr⟩ := h.row
  rw [room_ints] at hm
  refine (Nts.to_any lo hi w A zs.length c zs hr hh (by omega)).mono ?_
  rintro e w' ⟨a, c', rfl, ho, h3, h4, hb⟩
  exact ⟨_, rfl, Owns.of_row ho h3 h4 (fun t a1 a2 => ⟨a1, a2⟩), hb⟩
theorem geq_IntS {l1 h1 l2 h2 : Nat} {v' : Value} (h : Lies l1 h1 w (ints zs) v) (h' : Lies l2 h2 w (ints zs) v') :
    Calls Try.prog 54 #[v, v'] w fun e w' => e = .returned (.bool true) ∧ Below w.heap.size w w' := by
  obtain ⟨A, c, rfl, k1, k2, hr⟩ := h.row
  obtain ⟨A', c', rfl, k1', k2', hr'⟩ := h'.row
  refine (Nts.eq_same l1 h1 l2 h2 w A A' zs.length c c' zs hr hr' (by unfold maxLen at k2; omega)).mono ?_
  rintro e w' ⟨rfl, m, rfl⟩
  exact ⟨rfl, Mem.below_drewN (Below.refl _ _) _⟩
theorem gmark_IntS {S : Nat → Prop} (m : Nat) (h : Owns w (ints zs) v S) (hm : m + ct (ints zs) ≤ 1125899906842624) :
    Calls Try.prog 63 #[v, .int .i64 m] w fun e w' => e = .returned (.int .i64 ((m + ct (ints zs) : Nat) : Int)) ∧ Owns w' (mk m (ints zs)) v S ∧ Turn S w w' := by
  rw [ct_ints] at hm ⊢
  obtain ⟨A, c, x, y, rfl, h1, h2, ho, hS⟩ := h.row
  refine (Nts.mark_any x y m w A zs.length c zs ho (by omega)).mono ?_
  rintro e w' ⟨rfl, ho', hz⟩
  refine ⟨rfl, Owns.mk_ints ?_ (by omega), Turn.of_zone hz hS⟩
  have := Owns.of_row (lo := x) (hi := y) (A := A) (n := zs.length) (c := c) (zs := marks .i64 m zs.length) ho' h1 h2 hS
  exact this
end
/-- What is left of a count. -/
def left (l : Int) (r : Nat) : Int := if (r : Int) ≤ l then l - r else -1
theorem left_cases (l : Int) (r : Nat) (_h : 0 ≤ l) : (left l r = -1 ∧ l < r) ∨ (left l r = l - r ∧ 0 ≤ left l r) := by
  unfold left
  split <;> omega
theorem left_none {l : Int} {r : Nat} (h : l < r) : left l r = -1 := by unfold left; rw [if_neg (by omega)]
theorem left_some {l : Int} {r : Nat} (h : (r : Int) ≤ l) : left l r = l - r := by unfold left; rw [if_pos h]
set_option maxRecDepth 100000 in
theorem gsz_IntS {lo hi : Nat} {w : World} {zs : List Int} {v : Value} (h : Lies lo hi w (ints zs) v) (_hh : hi ≤ w.heap.size) (l : Int) (hl : 0 ≤ l) (hl' : l ≤ 1048576) :
    Calls Try.prog 50 #[v, .int .i64 l] w fun e w' => e = .returned (.int .i64 (left l (room (ints zs)))) ∧ Below w.heap.size w w' := by
  obtain ⟨A, c, rfl, h1, h2, hr⟩ := h.row
  rw [room_ints]
  obtain ⟨n, hn⟩ : ∃ n, zs.length = n := ⟨_, rfl⟩
  rw [hn] at h1 ⊢
  unfold maxLen at h2
  have e1 : IntKind.wrap .i64 (l - n) = l - n := by rw [IntKind.wrap_i64]; omega
  unfold left
  by_cases hc : (n : Int) ≤ l
  · have d : decide (l - (n : Int) < 0) = false := by simp; omega
    rw [if_pos hc]
    clear hr hn h
    go_enter Try.func50, Try.ntmps50
    go_wp2
    go_ret
    exact ⟨rfl, Below.refl _ _⟩
  · have d : decide (l - (n : Int) < 0) = true := by simp; omega
    rw [if_neg hc]
    clear hr hn h
    go_enter Try.func50, Try.ntmps50
    go_wp2
    go_ret
    exact ⟨rfl, Below.refl _ _⟩
end Go.Proofs.Ytagnhfalmefbhaa.Gen
