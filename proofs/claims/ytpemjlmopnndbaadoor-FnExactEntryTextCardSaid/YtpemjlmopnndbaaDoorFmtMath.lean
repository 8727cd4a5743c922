/-
  Plain facts on decimal numerals: the digits of a number above 0, and how many there are.
  Conditions: none; nothing of the program stands here.
-/
import Derived.Lib.ItoaNum
namespace Go.Proofs.YtpemjlmopnndbaaDoor.Fmt
open Go

/-- The digits of m, none for 0. -/
def dgs (m : Nat) : List UInt8 := if m = 0 then [] else Lib.decDigits m

/-- The last digit of m, as a letter. -/
def dg1 (m : Nat) : UInt8 := UInt8.ofNat (48 + m % 10)

theorem dgs_zero : dgs 0 = [] := rfl
theorem dgs_pos {m : Nat} (h : 0 < m) : dgs m = Lib.decDigits m := by unfold dgs; rw [if_neg (by omega)]
theorem dgs_step {m : Nat} (h : 0 < m) : dgs m = dgs (m / 10) ++ [UInt8.ofNat (48 + m % 10)] := by
  rw [dgs_pos h]
  by_cases h10 : m < 10
  · rw [Lib.decDigits, dif_pos h10]
    have h0 : m / 10 = 0 := by omega
    have h1 : m % 10 = m := by omega
    rw [h0, dgs_zero, h1]; rfl
  · rw [Lib.decDigits, dif_neg h10, dgs_pos (by omega)]

theorem dgs_len (m : Nat) (h : m ≤ 9223372036854775808) : (dgs m).length ≤ 19 := by
  by_cases h0 : m = 0
  · subst h0; simp [dgs]
  · rw [dgs_pos (by omega), Lib.decDigits_eq]
    simp only [List.length_map, List.length_range]
    have : ∀ (k u : Nat), u < 10 ^ (k + 1) → Lib.nDigits u ≤ k + 1 := by
      intro k
      induction k with
      | zero => intro u hu; rw [Lib.nDigits_small (by simpa using hu)]; exact Nat.le_refl _
      | succ k ih =>
        intro u hu
        by_cases hs : u < 10
        · rw [Lib.nDigits_small hs]; omega
        · rw [Lib.nDigits_big hs]
          have := ih (u / 10) (by rw [Nat.pow_succ] at hu; omega)
          omega
    exact this 18 m (by omega)

/-- A round of the loop: one digit goes from the number to the front of the text. -/
theorem round_dgs {n m : Nat} {t : List UInt8} (h : dgs n = dgs m ++ t) (hm : 0 < m) : dgs n = dgs (m / 10) ++ (dg1 m :: t) := by
  rw [h, dgs_step hm]; simp [dg1]
theorem text_len {n m : Nat} {t : List UInt8} (h : dgs n = dgs m ++ t) (hn : n ≤ 9223372036854775808) : t.length ≤ 19 := by
  have := dgs_len n hn
  rw [h, List.length_append] at this
  omega
theorem itoa_of_pos {n : Int} (h : 0 < n) : Lib.itoa n = dgs n.toNat := by
  unfold Lib.itoa; rw [if_neg (by omega), dgs_pos (by omega)]
theorem itoa_of_neg {n : Int} (h : n < 0) : Lib.itoa n = 45 :: dgs n.natAbs := by
  unfold Lib.itoa; rw [if_pos h, dgs_pos (by omega)]
theorem itoa_zero : Lib.itoa 0 = [48] := by
  unfold Lib.itoa; rw [if_neg (by omega)]; unfold Lib.decDigits; rfl
theorem itoa_len (n : Int) (h0 : -9223372036854775808 ≤ n) (h1 : n ≤ 9223372036854775807) : (Lib.itoa n).length ≤ 20 := by
  rcases Int.lt_trichotomy n 0 with h | h | h
  · rw [itoa_of_neg h]; have := dgs_len n.natAbs (by omega); simp; omega
  · subst h; rw [itoa_zero]; simp
  · rw [itoa_of_pos h]; have := dgs_len n.toNat (by omega); omega
end Go.Proofs.YtpemjlmopnndbaaDoor.Fmt
