/-
  Plain facts on parsing decimal numerals: when a text is the numeral of a number from 0 to 1000000000000.
  Conditions: none; nothing of the program stands here.
-/
import Derived.Lib.ItoaNum
import Derived.Lib.AtoiTie
import Derived.Test.YtpemjlmopnndbaaDoorFmtMath
namespace Go.Proofs.YtpemjlmopnndbaaDoor.Fmt
open Go

/-- The number from 0 to 1000000000000 whose numeral the text is. -/
def pnum (l : List UInt8) : Option Nat := match Lib.decNat l with
  | some m => if l.length ≤ 13 ∧ m ≤ 1000000000000 ∧ Lib.itoa m = l then some m else none
  | none => none

theorem pnum_some {l : List UInt8} {m : Nat} (h : pnum l = some m) : Lib.decNat l = some m ∧ l.length ≤ 13 ∧ m ≤ 1000000000000 ∧ Lib.itoa m = l := by
  unfold pnum at h
  cases hd : Lib.decNat l with
  | none => rw [hd] at h; cases h
  | some k =>
    rw [hd] at h
    simp only at h
    split at h
    · rename_i hc
      obtain rfl := Option.some.inj h
      exact ⟨rfl, hc⟩
    · cases h

theorem pnum_of {l : List UInt8} {m : Nat} (hd : Lib.decNat l = some m) (hl : l.length ≤ 13) (hm : m ≤ 1000000000000) (hi : Lib.itoa m = l) : pnum l = some m := by
  unfold pnum; rw [hd]; simp only; rw [if_pos ⟨hl, hm, hi⟩]

theorem decFrom_append (a b : List UInt8) : ∀ acc n, Lib.decFrom acc a = some n → Lib.decFrom acc (a ++ b) = Lib.decFrom n b := by
  induction a with
  | nil => intro acc n h; simp only [Lib.decFrom] at h; obtain rfl := Option.some.inj h; rfl
  | cons c r ih =>
    intro acc n h
    simp only [Lib.decFrom, List.cons_append] at h ⊢
    cases hd : Lib.digitVal c with
    | none => rw [hd] at h; cases h
    | some d => rw [hd] at h; simp only at h ⊢; exact ih _ _ h

theorem digitVal_dig (k : Nat) (h : k < 10) : Lib.digitVal (UInt8.ofNat (48 + k)) = some k := by
  unfold Lib.digitVal
  have : (UInt8.ofNat (48 + k)).toNat = 48 + k := by rw [UInt8.toNat_ofNat']; omega
  rw [this, if_pos (by omega)]
  congr 1; omega

theorem decFrom_digits (u : Nat) : Lib.decFrom 0 (Lib.decDigits u) = some u := by
  induction u using Nat.strongRecOn with
  | _ u ih =>
    rw [Lib.decDigits]
    by_cases h : u < 10
    · rw [dif_pos h]
      simp only [Lib.decFrom, digitVal_dig u h]
      simp
    · rw [dif_neg h, decFrom_append _ _ _ _ (ih (u / 10) (by omega))]
      simp only [Lib.decFrom, digitVal_dig (u % 10) (by omega)]
      congr 1; omega

theorem decDigits_ne (u : Nat) : Lib.decDigits u ≠ [] := by
  rw [Lib.decDigits]; split <;> simp

theorem decNat_digits (u : Nat) : Lib.decNat (Lib.decDigits u) = some u := by
  unfold Lib.decNat
  have : (Lib.decDigits u).isEmpty = false := by
    cases h : Lib.decDigits u with
    | nil => exact absurd h (decDigits_ne u)
    | cons => rfl
  rw [this]
  exact decFrom_digits u

theorem nDigits_le : ∀ (k u : Nat), u < 10 ^ (k + 1) → Lib.nDigits u ≤ k + 1 := by
  intro k
  induction k with
  | zero => intro u hu; rw [Lib.nDigits_small (by simpa using hu)]; exact Nat.le_refl _
  | succ k ih =>
    intro u hu
    by_cases hs : u < 10
    · rw [Lib.nDigits_small hs]; omega
    · rw [Lib.nDigits_big hs]
      have := ih (u / 10) (by rw [Nat.pow_succ] at hu; omega)
      omega

theorem itoa_nat (m : Nat) : Lib.itoa (m : Int) = Lib.decDigits m := by
  unfold Lib.itoa; rw [if_neg (by omega)]; simp

theorem pnum_itoa (m : Nat) (h : m ≤ 1000000000000) : pnum (Lib.itoa (m : Int)) = some m := by
  refine pnum_of ?_ ?_ h rfl
  · rw [itoa_nat]; exact decNat_digits m
  · rw [itoa_nat, Lib.decDigits_eq]
    simp only [List.length_map, List.length_range]
    exact nDigits_le 12 m (by omega)

theorem digit_range {b : UInt8} {d : Nat} (h : Lib.digitVal b = some d) : 48 ≤ b.toNat ∧ b.toNat ≤ 57 ∧ d = b.toNat - 48 := by
  unfold Lib.digitVal at h
  split at h
  · obtain rfl := Option.some.inj h; exact ⟨by omega, by omega, rfl⟩
  · cases h
theorem digit_of {b : UInt8} (h0 : 48 ≤ b.toNat) (h1 : b.toNat ≤ 57) : Lib.digitVal b = some (b.toNat - 48) := by
  unfold Lib.digitVal; rw [if_pos ⟨h0, h1⟩]
theorem no_digit {b : UInt8} (h : ¬ (48 ≤ b.toNat ∧ b.toNat ≤ 57)) : Lib.digitVal b = none := by
  unfold Lib.digitVal; rw [if_neg h]

theorem atoi_pnum {l : List UInt8} {m : Nat} (h : pnum l = some m) : Lib.atoiAll l = .ok (m : Int) := by
  obtain ⟨hd, hl, hm, _⟩ := pnum_some h
  rw [Lib.atoiAll_short l (by omega)]
  cases l with
  | nil => simp [Lib.decNat] at hd
  | cons b r =>
    have hb : ∃ d, Lib.digitVal b = some d := by
      unfold Lib.decNat at hd
      simp only [List.isEmpty_cons] at hd
      cases hx : Lib.digitVal b with
      | none => simp [Lib.decFrom, hx] at hd
      | some d => exact ⟨d, rfl⟩
    obtain ⟨d, hd1⟩ := hb
    obtain ⟨hb0, hb1, _⟩ := digit_range hd1
    have n45 : (b == 45) = false := by
      rw [beq_eq_false_iff_ne]; intro e; subst e; simp at hb0
    have n43 : (b == 43) = false := by
      rw [beq_eq_false_iff_ne]; intro e; subst e; simp at hb0
    unfold Lib.atoi
    simp only [n45, n43]
    rw [hd]
    rfl

/-- A text that parses as v and whose numeral is the text again: it is the numeral of a number in range exactly if v is in range. -/
theorem pnum_of_atoi {l : List UInt8} {v : Int} (hi : Lib.itoa v = l) (h0 : 0 ≤ v) (h1 : v ≤ 1000000000000) : pnum l = some v.toNat := by
  have hv : ((v.toNat : Nat) : Int) = v := by omega
  have hx := pnum_itoa v.toNat (by omega)
  rw [hv, hi] at hx
  exact hx
theorem pnum_none_of {l : List UInt8} {v : Int} (ha : Lib.atoiAll l = .ok v) (h : ¬ (Lib.itoa v = l ∧ 0 ≤ v ∧ v ≤ 1000000000000)) : pnum l = none := by
  cases hp : pnum l with
  | none => rfl
  | some m =>
    obtain ⟨_, _, hm, hi⟩ := pnum_some hp
    have := atoi_pnum hp
    rw [ha] at this
    injection this with this
    subst this
    exact absurd ⟨hi, by omega, by omega⟩ h
theorem pnum_none_of_not {l : List UInt8} (ha : ∀ v, Lib.atoiAll l ≠ .ok v) : pnum l = none := by
  cases hp : pnum l with
  | none => rfl
  | some m => exact absurd (atoi_pnum hp) (ha _)
end Go.Proofs.YtpemjlmopnndbaaDoor.Fmt
