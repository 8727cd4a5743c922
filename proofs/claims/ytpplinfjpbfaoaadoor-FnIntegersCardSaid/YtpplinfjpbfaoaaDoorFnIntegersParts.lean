/-
  The parts of the integers' law: ParseInt by the two ways that it can end, CeilDiv and Mod by their inequalities.
  Conditions: each stands in its theorem.
-/
import Derived.Test.YtpplinfjpbfaoaaDoorParse
import Derived.Test.YtpplinfjpbfaoaaDoorDraws1
namespace Go.Proofs.YtpplinfjpbfaoaaDoor.Ints
open Go Go.RowKit Go.Proofs.YtpplinfjpbfaoaaDoor.Fmt Go.Proofs.YtpplinfjpbfaoaaDoor.Draw

theorem parse_yes (s : ByteArray) (w : World) (m : Nat) (hs : s.size ≤ 281474976710656) (ht : Tab w) (he : Errs w) (h : pnum s.data.toList = some m) :
    Calls Tryd.prog 7 #[.string s] w fun e w' => e = .returned (.tuple #[.int .i64 m, .bool true]) ∧ Below w.heap.size w w' := by
  have h1 : pval s.data.toList = m := by unfold pval; rw [h]
  have h2 : pyes s.data.toList = true := by unfold pyes; rw [h]; rfl
  have := parse_says s w hs ht he
  rw [h1, h2] at this
  exact this
theorem parse_none (s : ByteArray) (w : World) (hs : s.size ≤ 281474976710656) (ht : Tab w) (he : Errs w) (h : pnum s.data.toList = none) :
    Calls Tryd.prog 7 #[.string s] w fun e w' => e = .returned (.tuple #[.int .i64 0, .bool false]) ∧ Below w.heap.size w w' := by
  have h1 : pval s.data.toList = 0 := by unfold pval; rw [h]
  have h2 : pyes s.data.toList = false := by unfold pyes; rw [h]; rfl
  have := parse_says s w hs ht he
  rw [h1, h2] at this
  exact this

theorem pnum_neg (m : Int) (h : m < 0) : pnum (Lib.itoa m) = none := by
  cases hp : pnum (Lib.itoa m) with
  | none => rfl
  | some k =>
    have := (pnum_some hp).1
    rw [itoa_of_neg h] at this
    have hd : Lib.digitVal 45 = none := by decide
    simp [Lib.decNat, Lib.decFrom, hd] at this
theorem pnum_over (m : Int) (h : 1000000000000 < m) : pnum (Lib.itoa m) = none := by
  cases hp : pnum (Lib.itoa m) with
  | none => rfl
  | some k =>
    obtain ⟨h1, _, h2, _⟩ := pnum_some hp
    have h3 : ((m.toNat : Nat) : Int) = m := by omega
    rw [← h3, itoa_nat, decNat_digits] at h1
    obtain rfl := Option.some.inj h1
    omega
theorem pnum_range (m : Int) (h0 : 0 ≤ m) (h1 : m ≤ 1000000000000) : pnum (Lib.itoa m) = some m.toNat := by
  have h := pnum_itoa m.toNat (by omega)
  have h3 : ((m.toNat : Nat) : Int) = m := by omega
  rw [h3] at h
  exact h

/-- ParseInt of the numeral of m. -/
theorem parse_in (m : Int) (w : World) (h0 : 0 ≤ m) (h1 : m ≤ 1000000000000) (ht : Tab w) (he : Errs w) :
    Calls Tryd.prog 7 #[.string ⟨(Lib.itoa m).toArray⟩] w fun e w' => e = .returned (.tuple #[.int .i64 m, .bool true]) ∧ Below w.heap.size w w' := by
  have hl := itoa_len m (by omega) (by omega)
  have := parse_yes ⟨(Lib.itoa m).toArray⟩ w m.toNat (by show (Lib.itoa m).toArray.size ≤ _; simp; omega) ht he (by simpa using pnum_range m h0 h1)
  have h3 : ((m.toNat : Nat) : Int) = m := by omega
  rw [h3] at this
  exact this
theorem parse_out (m : Int) (w : World) (h : m < 0 ∨ 1000000000000 < m) (h0 : -9223372036854775808 ≤ m) (h1 : m ≤ 9223372036854775807) (ht : Tab w) (he : Errs w) :
    Calls Tryd.prog 7 #[.string ⟨(Lib.itoa m).toArray⟩] w fun e w' => e = .returned (.tuple #[.int .i64 0, .bool false]) ∧ Below w.heap.size w w' := by
  have hl := itoa_len m h0 h1
  exact parse_none ⟨(Lib.itoa m).toArray⟩ w (by show (Lib.itoa m).toArray.size ≤ _; simp; omega) ht he (by
    rcases h with h | h
    · simpa using pnum_neg m h
    · simpa using pnum_over m h)

set_option maxRecDepth 100000 in
theorem ceil_in (a b : Int) (w : World) (a0 : 0 ≤ a) (a1 : a ≤ 1000000000000) (b0 : 1 ≤ b) (b1 : b ≤ 1000000000000) :
    Calls Tryd.prog 11 #[.int .i64 a, .int .i64 b] w fun e w' => (∃ q : Int, e = .returned (.int .i64 q) ∧ a ≤ q * b ∧ q * b - a < b) ∧ w = w' := by
  have h1 := Int.emod_nonneg (a + b - 1) (b := b) (by omega)
  have h2 := Int.emod_lt_of_pos (a + b - 1) (show (0 : Int) < b by omega)
  have h3 := Int.ediv_mul_add_emod (a + b - 1) b
  have hq : a ≤ (a + b - 1) / b * b ∧ (a + b - 1) / b * b - a < b := ⟨by omega, by omega⟩
  clear h1 h2 h3
  obtain ⟨q0, q1⟩ := hq
  go_enter Tryd.func11, Tryd.ntmps11
  go_wp2
  go_ret
  exact ⟨⟨_, rfl, q0, q1⟩, rfl⟩
set_option maxRecDepth 100000 in
theorem ceil_out (a b : Int) (w : World) (h : a < 0 ∨ 1000000000000 < a ∨ b < 1 ∨ 1000000000000 < b) :
    Calls Tryd.prog 11 #[.int .i64 a, .int .i64 b] w fun e w' => e = .returned (.int .i64 0) ∧ w = w' := by
  by_cases a0 : 0 ≤ a
  · by_cases a1 : a ≤ 1000000000000
    · by_cases b0 : 1 ≤ b
      · have b1 : decide (b ≤ 1000000000000) = false := by simp; omega
        clear h
        go_enter Tryd.func11, Tryd.ntmps11
        go_wp2
        go_ret
        exact ⟨rfl, rfl⟩
      · have b1 : b < 1 := by omega
        clear h
        go_enter Tryd.func11, Tryd.ntmps11
        go_wp2
        go_ret
        exact ⟨rfl, rfl⟩
    · have a2 : decide (a ≤ 1000000000000) = false := by simp; omega
      clear h
      go_enter Tryd.func11, Tryd.ntmps11
      go_wp2
      go_ret
      exact ⟨rfl, rfl⟩
  · have a2 : a < 0 := by omega
    clear h
    go_enter Tryd.func11, Tryd.ntmps11
    go_wp2
    go_ret
    exact ⟨rfl, rfl⟩

set_option maxRecDepth 100000 in
theorem mod_in (a b : Int) (w : World) (b0 : 1 ≤ b) (b1 : b ≤ 1000000000000) :
    Calls Tryd.prog 12 #[.int .i64 a, .int .i64 b] w fun e w' => (∃ r : Int, e = .returned (.int .i64 r) ∧ 0 ≤ r ∧ r < b ∧ ((a.tmod b - r = 0) ∨ (a.tmod b - r = -b))) ∧ w = w' := by
  have hlo := Int.lt_tmod_of_pos a (show (0 : Int) < b by omega)
  have hhi := Int.tmod_lt_of_pos a (show (0 : Int) < b by omega)
  by_cases h : a.tmod b < 0
  · go_enter Tryd.func12, Tryd.ntmps12
    go_wp2
    go_ret
    exact ⟨⟨_, rfl, by omega, by omega, Or.inr (by omega)⟩, rfl⟩
  · go_enter Tryd.func12, Tryd.ntmps12
    go_wp2
    go_ret
    exact ⟨⟨_, rfl, by omega, by omega, Or.inl (by omega)⟩, rfl⟩
set_option maxRecDepth 100000 in
theorem mod_out (a b : Int) (w : World) (h : b < 1 ∨ 1000000000000 < b) :
    Calls Tryd.prog 12 #[.int .i64 a, .int .i64 b] w fun e w' => e = .returned (.int .i64 0) ∧ w = w' := by
  by_cases b0 : 1 ≤ b
  · have b1 : decide (b ≤ 1000000000000) = false := by simp; omega
    clear h
    go_enter Tryd.func12, Tryd.ntmps12
    go_wp2
    go_ret
    exact ⟨rfl, rfl⟩
  · have b1 : b < 1 := by omega
    clear h
    go_enter Tryd.func12, Tryd.ntmps12
    go_wp2
    go_ret
    exact ⟨rfl, rfl⟩

theorem rem_zero (x y r : Int) (y0 : 1 ≤ y) (y1 : y ≤ 1000000000000) (hr : x.tmod y - r = 0 ∨ x.tmod y - r = -y) : ((wrap64 (x.tmod y - r)).tmod y != 0) = false := by
  rcases hr with h | h
  · rw [h, IntWalk.wrap64_in 0 ⟨by omega, by omega⟩]; simp
  · rw [h, IntWalk.wrap64_in (-y) ⟨by omega, by omega⟩]; simp
end Go.Proofs.YtpplinfjpbfaoaaDoor.Ints
