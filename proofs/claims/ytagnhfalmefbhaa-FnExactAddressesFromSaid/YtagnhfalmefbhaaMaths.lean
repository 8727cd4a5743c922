/-
  Plain facts on decimal numerals: the digits of a number above 0, and how many there are. The hash of a list of integers, as a plain function of the list; what changes it. Plain facts on parsing decimal numerals: when a text is the numeral of a number from 0 to 1000000000000. Plain facts on the text of an address: what it is, how a text is cut at its marks, and that a text has one address at most.
  Conditions: as each theorem states them.
-/
import Derived.Lib.ItoaNum
import Derived.WalkKit
import Derived.Lib.AtoiTie
namespace Go.Proofs.Ytagnhfalmefbhaa.Fmt
open Go

/-- The digits of m, none for 0. -/
def dgs (m : Nat) : List UInt8 := if m = 0 then [] else Lib.decDigits m

/-- The last digit of m, as a letter. -/
def dg1 (m : Nat) : UInt8 := UInt8.ofNat (48 + m % 10)

theorem dgs_zero : dgs 0 = [] := rfl
theorem dgs_pos {m : Nat} (h : 0 < m) : dgs m = Lib.decDigits m := by unfold dgs; rw [if_neg (by omega)]
theorem dgs_step {m : Nat} (h : 0 < m) : dgs m = dgs (m / 10) ++ [UInt8.ofNat (48 + m % 10)] := by
  rw [dgs_pos h]
  by_cases h10 : m < 10
  · rw [Lib.decDigits, dif_pos h10]
    have h0 : m / 10 = 0 := by omega
    have h1 : m % 10 = m := by omega
    rw [h0, dgs_zero, h1]; rfl
  · rw [Lib.decDigits, dif_neg h10, dgs_pos (by omega)]

theorem dgs_len (m : Nat) (h : m ≤ 9223372036854775808) : (dgs m).length ≤ 19 := by
  by_cases h0 : m = 0
  · subst h0; simp [dgs]
  · rw [dgs_pos (by omega), Lib.decDigits_eq]
    simp only [List.length_map, List.length_range]
    have : ∀ (k u : Nat), u < 10 ^ (k + 1) → Lib.nDigits u ≤ k + 1 := by
      intro k
      induction k with
      | zero => intro u hu; rw [Lib.nDigits_small (by simpa using hu)]; exact Nat.le_refl _
      | succ k ih =>
        intro u hu
        by_cases hs : u < 10
        · rw [Lib.nDigits_small hs]; omega
        · rw [Lib.nDigits_big hs]
          have := ih (u / 10) (by rw [Nat.pow_succ] at hu; omega)
          omega
    exact this 18 m (by omega)

/-- A round of the loop: one digit goes from the number to the front of the text. -/
theorem round_dgs {n m : Nat} {t : List UInt8} (h : dgs n = dgs m ++ t) (hm : 0 < m) : dgs n = dgs (m / 10) ++ (dg1 m :: t) := by
  rw [h, dgs_step hm]; simp [dg1]
theorem text_len {n m : Nat} {t : List UInt8} (h : dgs n = dgs m ++ t) (hn : n ≤ 9223372036854775808) : t.length ≤ 19 := by
  have := dgs_len n hn
  rw [h, List.length_append] at this
  omega
theorem itoa_of_pos {n : Int} (h : 0 < n) : Lib.itoa n = dgs n.toNat := by
  unfold Lib.itoa; rw [if_neg (by omega), dgs_pos (by omega)]
theorem itoa_of_neg {n : Int} (h : n < 0) : Lib.itoa n = 45 :: dgs n.natAbs := by
  unfold Lib.itoa; rw [if_pos h, dgs_pos (by omega)]
theorem itoa_zero : Lib.itoa 0 = [48] := by
  unfold Lib.itoa; rw [if_neg (by omega)]; unfold Lib.decDigits; rfl
theorem itoa_len (n : Int) (h0 : -9223372036854775808 ≤ n) (h1 : n ≤ 9223372036854775807) : (Lib.itoa n).length ≤ 20 := by
  rcases Int.lt_trichotomy n 0 with h | h | h
  · rw [itoa_of_neg h]; have := dgs_len n.natAbs (by omega); simp; omega
  · subst h; rw [itoa_zero]; simp
  · rw [itoa_of_pos h]; have := dgs_len n.toNat (by omega); omega
end Go.Proofs.Ytagnhfalmefbhaa.Fmt
namespace Go.Proofs.Ytagnhfalmefbhaa.Hsh
open Go Go.RowKit

/-- One value more. -/
def hstep (d v : Int) : Int := (d * 1000003 + v % 2147483647 + 13) % 2147483647
def hash (zs : List Int) : Int := zs.foldl hstep 11
def khash (k : Int) (zs : List Int) : Int := hash (k :: (zs ++ [k]))

theorem hstep_range (d v : Int) : 0 ≤ hstep d v ∧ hstep d v < 2147483647 := by unfold hstep; omega
theorem fold_range (zs : List Int) : ∀ d : Int, 0 ≤ d → d < 2147483647 → 0 ≤ zs.foldl hstep d ∧ zs.foldl hstep d < 2147483647 := by
  induction zs with
  | nil => intro d h0 h1; exact ⟨h0, h1⟩
  | cons z zs ih => intro d _ _; exact ih _ (hstep_range d z).1 (hstep_range d z).2
theorem hash_range (zs : List Int) : 0 ≤ hash zs ∧ hash zs < 2147483647 := fold_range zs 11 (by omega) (by omega)
theorem khash_range (k : Int) (zs : List Int) : 0 ≤ khash k zs ∧ khash k zs < 2147483647 := hash_range _
theorem hash_next (zs : List Int) (j : Nat) (hj : j < zs.length) : hstep (hash (zs.take j)) (zs.getD j 0) = hash (zs.take (j + 1)) := by
  unfold hash
  rw [List.take_succ_eq_append_getElem hj, List.foldl_append, List.getD_eq_getElem?_getD, List.getElem?_eq_getElem hj]
  rfl
theorem hstep_of {d v r : Int} (h : v % 2147483647 = r) : (d * 1000003 + r + 13) % 2147483647 = hstep d v := by unfold hstep; rw [h]

theorem mod_diff {x y n : Int} (h : x % n = y % n) : ∃ t, x - y = n * t := Int.dvd_of_emod_eq_zero (Int.emod_eq_emod_iff_emod_sub_eq_zero.1 h)
theorem step_diff {x y t : Int} (n : Int) (r : Int) (d e : Int) (hx : x = d * 1000003 + r + 13) (hy : y = e * 1000003 + r + 13) (h : x - y = n * t) : 1000003 * (d - e) = n * t := by omega
theorem inverse {x t : Int} (h : 1000003 * x = 2147483647 * t) : x = 2147483647 * (1523789695 * t - 709572 * x) := by omega
theorem no_multiple {x s : Int} (h : x = 2147483647 * s) (h0 : -2147483647 < x) (h1 : x < 2147483647) : x = 0 := by omega
theorem step_inj {d e r : Int} (d0 : 0 ≤ d) (d1 : d < 2147483647) (e0 : 0 ≤ e) (e1 : e < 2147483647) (h : (d * 1000003 + r + 13) % 2147483647 = (e * 1000003 + r + 13) % 2147483647) : d = e := by
  obtain ⟨t, ht⟩ := mod_diff h
  have h1 := step_diff 2147483647 r d e rfl rfl ht
  have h2 := inverse h1
  clear h ht h1
  have h3 := no_multiple h2
  clear h2
  have h4 := h3 (by omega) (by omega)
  omega
theorem hstep_inj {d e v : Int} (d0 : 0 ≤ d) (d1 : d < 2147483647) (e0 : 0 ≤ e) (e1 : e < 2147483647) (h : hstep d v = hstep e v) : d = e :=
  step_inj (r := v % 2147483647) d0 d1 e0 e1 h
theorem hstep_new {d u v : Int} (h : u % 2147483647 ≠ v % 2147483647) : hstep d u ≠ hstep d v := by unfold hstep; omega
theorem fold_inj (zs : List Int) : ∀ d e : Int, 0 ≤ d → d < 2147483647 → 0 ≤ e → e < 2147483647 → zs.foldl hstep d = zs.foldl hstep e → d = e := by
  induction zs with
  | nil => intro d e _ _ _ _ h; exact h
  | cons z zs ih =>
    intro d e d0 d1 e0 e1 h
    exact hstep_inj d0 d1 e0 e1 (ih _ _ (hstep_range d z).1 (hstep_range d z).2 (hstep_range e z).1 (hstep_range e z).2 h)
theorem fold_set (tl : List Int) (u : Int) : ∀ (zs : List Int) (i : Nat) (d : Int), i < zs.length → u % 2147483647 ≠ zs.getD i 0 % 2147483647 → (zs.set i u ++ tl).foldl hstep d ≠ (zs ++ tl).foldl hstep d := by
  intro zs
  induction zs with
  | nil => intro i d hi; simp at hi
  | cons z zs ih =>
    intro i d hi h
    cases i with
    | zero =>
      intro he
      exact hstep_new (d := d) (by simpa using h) (fold_inj (zs ++ tl) _ _ (hstep_range d u).1 (hstep_range d u).2 (hstep_range d z).1 (hstep_range d z).2 he)
    | succ i => exact ih i (hstep d z) (by simpa using hi) (by simpa using h)
/-- One value that changes modulo the modulus changes the keyed hash. -/
theorem khash_set (k u : Int) (zs : List Int) (i : Nat) (hi : i < zs.length) (h : u % 2147483647 ≠ zs.getD i 0 % 2147483647) : khash k (zs.set i u) ≠ khash k zs :=
  fold_set [k] u zs i (hstep 11 k) hi h

/-! The cipher. -/
def encAt (k : Int) (i : Nat) (z : Int) : Int := (z + khash k [(i : Int)] % 256) % 256
def decAt (k : Int) (i : Nat) (z : Int) : Int := (z - khash k [(i : Int)] % 256) % 256
theorem encAt_range (k : Int) (i : Nat) (z : Int) : 0 ≤ encAt k i z ∧ encAt k i z ≤ 255 := by unfold encAt; omega
theorem decAt_range (k : Int) (i : Nat) (z : Int) : 0 ≤ decAt k i z ∧ decAt k i z ≤ 255 := by unfold decAt; omega
theorem dec_enc (k : Int) (i : Nat) (z : Int) (h0 : 0 ≤ z) (h1 : z ≤ 255) : decAt k i (encAt k i z) = z := by unfold encAt decAt; omega
theorem enc_dec (k : Int) (i : Nat) (z : Int) (h0 : 0 ≤ z) (h1 : z ≤ 255) : encAt k i (decAt k i z) = z := by unfold encAt decAt; omega
/-- A list changed place by place, so far. -/
def upTo (f : Nat → Int → Int) (j : Nat) (zs : List Int) : List Int := (zs.take j).mapIdx f
def all (f : Nat → Int → Int) (zs : List Int) : List Int := zs.mapIdx f
theorem all_len (f : Nat → Int → Int) (zs : List Int) : (all f zs).length = zs.length := by simp [all]
theorem upTo_len (f : Nat → Int → Int) (j : Nat) (zs : List Int) (h : j ≤ zs.length) : (upTo f j zs).length = j := by simp [upTo]; omega
theorem upTo_zero (f : Nat → Int → Int) (zs : List Int) : upTo f 0 zs = [] := by simp [upTo]
theorem upTo_next (f : Nat → Int → Int) (j : Nat) (zs : List Int) (h : j < zs.length) : upTo f j zs ++ [f j (zs.getD j 0)] = upTo f (j + 1) zs := by
  unfold upTo
  rw [List.take_succ_eq_append_getElem h, List.mapIdx_append, List.getD_eq_getElem?_getD, List.getElem?_eq_getElem h]
  simp [Nat.min_eq_left (Nat.le_of_lt h)]
theorem upTo_all (f : Nat → Int → Int) (j : Nat) (zs : List Int) (h : j = zs.length) : upTo f j zs = all f zs := by
  unfold upTo all; rw [h, List.take_length]
/-- So far changed, the rest as it was. -/
def mix (f : Nat → Int → Int) (j : Nat) (zs : List Int) : List Int := upTo f j zs ++ zs.drop j
theorem mix_zero (f : Nat → Int → Int) (zs : List Int) : mix f 0 zs = zs := by simp [mix, upTo]
theorem mix_len (f : Nat → Int → Int) (j : Nat) (zs : List Int) (h : j ≤ zs.length) : (mix f j zs).length = zs.length := by
  unfold mix; rw [List.length_append, upTo_len f j zs h, List.length_drop]; omega
theorem mix_at (f : Nat → Int → Int) (j : Nat) (zs : List Int) (h : j ≤ zs.length) : (mix f j zs).getD j 0 = zs.getD j 0 := by
  have h1 := upTo_len f j zs h
  unfold mix
  rw [List.getD_eq_getElem?_getD, List.getElem?_append_right (by omega), h1, Nat.sub_self, List.getElem?_drop, Nat.add_zero, List.getD_eq_getElem?_getD]
theorem mix_next (f : Nat → Int → Int) (j : Nat) (zs : List Int) (h : j < zs.length) : (mix f j zs).set j (f j (zs.getD j 0)) = mix f (j + 1) zs := by
  have h1 := upTo_len f j zs (by omega)
  unfold mix
  rw [List.set_append_right j _ (by omega), h1, Nat.sub_self, List.drop_eq_getElem_cons h, List.set_cons_zero, ← upTo_next f j zs h, List.append_assoc]
  rfl
theorem mix_all (f : Nat → Int → Int) (j : Nat) (zs : List Int) (h : j = zs.length) : mix f j zs = all f zs := by
  unfold mix; rw [upTo_all f j zs h, h, List.drop_length, List.append_nil]
theorem all_back (f g : Nat → Int → Int) (zs : List Int) (h : ∀ i z, 0 ≤ z → z ≤ 255 → g i (f i z) = z) (hz : ∀ z ∈ zs, 0 ≤ z ∧ z ≤ 255) : all g (all f zs) = zs := by
  unfold all
  apply List.ext_getElem
  · simp
  · intro i h1 h2
    simp only [List.getElem_mapIdx]
    have := hz _ (List.getElem_mem h2)
    exact h i _ this.1 this.2
theorem all_wf (f : Nat → Int → Int) (zs : List Int) (h : ∀ i z, 0 ≤ f i z ∧ f i z ≤ 255) : ∀ z ∈ all f zs, (Lit.int .u8 z).wf = true := by
  intro z hz
  obtain ⟨i, hi, he⟩ := List.mem_iff_getElem.1 hz
  simp only [all, List.getElem_mapIdx] at he
  rw [← he]
  exact WalkArith.wf_u8 (h _ _)

/-! A number modulo the modulus, by Go's remainder. -/
theorem tmod_up {a : Int} (h : 0 ≤ a) : a.tmod 2147483647 = a % 2147483647 := Int.tmod_eq_emod_of_nonneg h
theorem tmod_down {a : Int} (h : a < 0) : a.tmod 2147483647 = -((-a) % 2147483647) := by
  have h1 : a.tmod 2147483647 = -((-a).tmod 2147483647) := by rw [Int.neg_tmod, Int.neg_neg]
  rw [h1, tmod_up (by omega)]
theorem tmod_neg (a : Int) (h : a.tmod 2147483647 < 0) : a.tmod 2147483647 + 2147483647 = a % 2147483647 := by
  by_cases h0 : 0 ≤ a
  · rw [tmod_up h0] at *; omega
  · rw [tmod_down (by omega)] at *; omega
theorem tmod_pos (a : Int) (h : 0 ≤ a.tmod 2147483647) : a.tmod 2147483647 = a % 2147483647 := by
  by_cases h0 : 0 ≤ a
  · exact tmod_up h0
  · rw [tmod_down (by omega)] at *; omega
theorem tmod_any (a : Int) : (a.tmod 2147483647 + 2147483647) % 2147483647 = a % 2147483647 := by
  by_cases h0 : 0 ≤ a
  · rw [tmod_up h0]; omega
  · rw [tmod_down (by omega)]; omega
end Go.Proofs.Ytagnhfalmefbhaa.Hsh
namespace Go.Proofs.Ytagnhfalmefbhaa.Fmt
open Go

/-- The number from 0 to 1000000000000 whose numeral the text is. -/
def pnum (l : List UInt8) : Option Nat := match Lib.decNat l with
  | some m => if l.length ≤ 13 ∧ m ≤ 1000000000000 ∧ Lib.itoa m = l then some m else none
  | none => none

theorem pnum_some {l : List UInt8} {m : Nat} (h : pnum l = some m) : Lib.decNat l = some m ∧ l.length ≤ 13 ∧ m ≤ 1000000000000 ∧ Lib.itoa m = l := by
  unfold pnum at h
  cases hd : Lib.decNat l with
  | none => rw [hd] at h; cases h
  | some k =>
    rw [hd] at h
    simp only at h
    split at h
    · rename_i hc
      obtain rfl := Option.some.inj h
      exact ⟨rfl, hc⟩
    · cases h

theorem pnum_of {l : List UInt8} {m : Nat} (hd : Lib.decNat l = some m) (hl : l.length ≤ 13) (hm : m ≤ 1000000000000) (hi : Lib.itoa m = l) : pnum l = some m := by
  unfold pnum; rw [hd]; simp only; rw [if_pos ⟨hl, hm, hi⟩]

theorem decFrom_append (a b : List UInt8) : ∀ acc n, Lib.decFrom acc a = some n → Lib.decFrom acc (a ++ b) = Lib.decFrom n b := by
  induction a with
  | nil => intro acc n h; simp only [Lib.decFrom] at h; obtain rfl := Option.some.inj h; rfl
  | cons c r ih =>
    intro acc n h
    simp only [Lib.decFrom, List.cons_append] at h ⊢
    cases hd : Lib.digitVal c with
    | none => rw [hd] at h; cases h
    | some d => rw [hd] at h; simp only at h ⊢; exact ih _ _ h

theorem digitVal_dig (k : Nat) (h : k < 10) : Lib.digitVal (UInt8.ofNat (48 + k)) = some k := by
  unfold Lib.digitVal
  have : (UInt8.ofNat (48 + k)).toNat = 48 + k := by rw [UInt8.toNat_ofNat']; omega
  rw [this, if_pos (by omega)]
  congr 1; omega

theorem decFrom_digits (u : Nat) : Lib.decFrom 0 (Lib.decDigits u) = some u := by
  induction u using Nat.strongRecOn with
  | _ u ih =>
    rw [Lib.decDigits]
    by_cases h : u < 10
    · rw [dif_pos h]
      simp only [Lib.decFrom, digitVal_dig u h]
      simp
    · rw [dif_neg h, decFrom_append _ _ _ _ (ih (u / 10) (by omega))]
      simp only [Lib.decFrom, digitVal_dig (u % 10) (by omega)]
      congr 1; omega

theorem decDigits_ne (u : Nat) : Lib.decDigits u ≠ [] := by
  rw [Lib.decDigits]; split <;> simp

theorem decNat_digits (u : Nat) : Lib.decNat (Lib.decDigits u) = some u := by
  unfold Lib.decNat
  have : (Lib.decDigits u).isEmpty = false := by
    cases h : Lib.decDigits u with
    | nil => exact absurd h (decDigits_ne u)
    | cons => rfl
  rw [this]
  exact decFrom_digits u

theorem nDigits_le : ∀ (k u : Nat), u < 10 ^ (k + 1) → Lib.nDigits u ≤ k + 1 := by
  intro k
  induction k with
  | zero => intro u hu; rw [Lib.nDigits_small (by simpa using hu)]; exact Nat.le_refl _
  | succ k ih =>
    intro u hu
    by_cases hs : u < 10
    · rw [Lib.nDigits_small hs]; omega
    · rw [Lib.nDigits_big hs]
      have := ih (u / 10) (by rw [Nat.pow_succ] at hu; omega)
      omega

theorem itoa_nat (m : Nat) : Lib.itoa (m : Int) = Lib.decDigits m := by
  unfold Lib.itoa; rw [if_neg (by omega)]; simp

theorem pnum_itoa (m : Nat) (h : m ≤ 1000000000000) : pnum (Lib.itoa (m : Int)) = some m := by
  refine pnum_of ?_ ?_ h rfl
  · rw [itoa_nat]; exact decNat_digits m
  · rw [itoa_nat, Lib.decDigits_eq]
    simp only [List.length_map, List.length_range]
    exact nDigits_le 12 m (by omega)

theorem digit_range {b : UInt8} {d : Nat} (h : Lib.digitVal b = some d) : 48 ≤ b.toNat ∧ b.toNat ≤ 57 ∧ d = b.toNat - 48 := by
  unfold Lib.digitVal at h
  split at h
  · obtain rfl := Option.some.inj h; exact ⟨by omega, by omega, rfl⟩
  · cases h
theorem digit_of {b : UInt8} (h0 : 48 ≤ b.toNat) (h1 : b.toNat ≤ 57) : Lib.digitVal b = some (b.toNat - 48) := by
  unfold Lib.digitVal; rw [if_pos ⟨h0, h1⟩]
theorem no_digit {b : UInt8} (h : ¬ (48 ≤ b.toNat ∧ b.toNat ≤ 57)) : Lib.digitVal b = none := by
  unfold Lib.digitVal; rw [if_neg h]

theorem atoi_pnum {l : List UInt8} {m : Nat} (h : pnum l = some m) : Lib.atoiAll l = .ok (m : Int) := by
  obtain ⟨hd, hl, hm, _⟩ := pnum_some h
  rw [Lib.atoiAll_short l (by omega)]
  cases l with
  | nil => simp [Lib.decNat] at hd
  | cons b r =>
    have hb : ∃ d, Lib.digitVal b = some d := by
      unfold Lib.decNat at hd
      simp only [List.isEmpty_cons] at hd
      cases hx : Lib.digitVal b with
      | none => simp [Lib.decFrom, hx] at hd
      | some d => exact ⟨d, rfl⟩
    obtain ⟨d, hd1⟩ := hb
    obtain ⟨hb0, hb1, _⟩ := digit_range hd1
    have n45 : (b == 45) = false := by
      rw [beq_eq_false_iff_ne]; intro e; subst e; simp at hb0
    have n43 : (b == 43) = false := by
      rw [beq_eq_false_iff_ne]; intro e; subst e; simp at hb0
    unfold Lib.atoi
    simp only [n45, n43]
    rw [hd]
    rfl

/-- A text that parses as v and whose numeral is the text again: it is the numeral of a number in range exactly if v is in range. -/
theorem pnum_of_atoi {l : List UInt8} {v : Int} (hi : Lib.itoa v = l) (h0 : 0 ≤ v) (h1 : v ≤ 1000000000000) : pnum l = some v.toNat := by
  have hv : ((v.toNat : Nat) : Int) = v := by omega
  have hx := pnum_itoa v.toNat (by omega)
  rw [hv, hi] at hx
  exact hx
theorem pnum_none_of {l : List UInt8} {v : Int} (ha : Lib.atoiAll l = .ok v) (h : ¬ (Lib.itoa v = l ∧ 0 ≤ v ∧ v ≤ 1000000000000)) : pnum l = none := by
  cases hp : pnum l with
  | none => rfl
  | some m =>
    obtain ⟨_, _, hm, hi⟩ := pnum_some hp
    have := atoi_pnum hp
    rw [ha] at this
    injection this with this
    subst this
    exact absurd ⟨hi, by omega, by omega⟩ h
theorem pnum_none_of_not {l : List UInt8} (ha : ∀ v, Lib.atoiAll l ≠ .ok v) : pnum l = none := by
  cases hp : pnum l with
  | none => rfl
  | some m => exact absurd (atoi_pnum hp) (ha _)
end Go.Proofs.Ytagnhfalmefbhaa.Fmt
namespace Go.Proofs.Ytagnhfalmefbhaa.Adr
open Go Go.Proofs.Ytagnhfalmefbhaa.Fmt

/-- Host, path and query are in their ranges. -/
def okA (h p q : Int) : Bool := decide (1 ≤ h ∧ h ≤ 9 ∧ 0 ≤ p ∧ p ≤ 99 ∧ 0 ≤ q ∧ q ≤ 99)
theorem okA_iff {h p q : Int} : okA h p q = true ↔ 1 ≤ h ∧ h ≤ 9 ∧ 0 ≤ p ∧ p ≤ 99 ∧ 0 ≤ q ∧ q ≤ 99 := by unfold okA; simp

/-- The text of an address in its ranges. -/
def body (h p q : Int) : List UInt8 := Lib.itoa h ++ 47 :: (Lib.itoa p ++ if q = 0 then [] else 63 :: Lib.itoa q)
/-- The text of an address; no letter if it is not valid. -/
def atext (h p q : Int) : List UInt8 := if okA h p q then body h p q else []
theorem atext_ok {h p q : Int} (k : okA h p q = true) : atext h p q = body h p q := by unfold atext; rw [if_pos k]
theorem atext_bad {h p q : Int} (k : okA h p q = false) : atext h p q = [] := by unfold atext; rw [k]; rfl

theorem pnum_int (n : Int) (h0 : 0 ≤ n) (h1 : n ≤ 1000000000000) : pnum (Lib.itoa n) = some n.toNat := by
  have h3 : ((n.toNat : Nat) : Int) = n := by omega
  have := pnum_itoa n.toNat (by omega)
  rw [h3] at this; exact this

theorem num_digit {x : List UInt8} {m : Nat} (h : pnum x = some m) {c : UInt8} (hc : c ∈ x) : 48 ≤ c.toNat ∧ c.toNat ≤ 57 := by
  have hd := (pnum_some h).1
  unfold Lib.decNat at hd
  split at hd
  · cases hd
  · obtain ⟨k, hk, he⟩ := List.getElem_of_mem hc
    obtain ⟨d, hx⟩ := Lib.digit_of_decFrom _ _ _ hd k c (by rw [List.getElem?_eq_getElem hk, he])
    exact ⟨(digit_range hx).1, (digit_range hx).2.1⟩
theorem num_no {x : List UInt8} {m : Nat} (h : pnum x = some m) {c : UInt8} (hc : c.toNat < 48 ∨ 57 < c.toNat) : c ∉ x := fun hm => by
  have := num_digit h hm; omega
theorem itoa_no {n : Int} (h0 : 0 ≤ n) (h1 : n ≤ 99) {c : UInt8} (hc : c.toNat < 48 ∨ 57 < c.toNat) : c ∉ Lib.itoa n := num_no (pnum_int n h0 (by omega)) hc
theorem itoa_inj {n m : Int} (n0 : 0 ≤ n) (n1 : n ≤ 99) (m0 : 0 ≤ m) (m1 : m ≤ 99) (h : Lib.itoa n = Lib.itoa m) : n = m := by
  have a := pnum_int n n0 (by omega)
  have b := pnum_int m m0 (by omega)
  rw [h, b] at a
  have := Option.some.inj a
  omega

/-- A list is cut in one way at the first place of a letter. -/
theorem cut_eq {c : UInt8} : ∀ {x x' y y' : List UInt8}, c ∉ x → c ∉ x' → x ++ c :: y = x' ++ c :: y' → x = x' ∧ y = y'
  | [], [], _, _, _, _, h => by simpa using h
  | [], a :: x', _, _, _, h', h => by
    simp only [List.nil_append, List.cons_append, List.cons.injEq] at h
    exact absurd (by rw [← h.1]; exact List.mem_cons_self) h'
  | a :: x, [], _, _, h', _, h => by
    simp only [List.nil_append, List.cons_append, List.cons.injEq] at h
    exact absurd (by rw [h.1]; exact List.mem_cons_self) h'
  | a :: x, b :: x', y, y', h1, h2, h => by
    simp only [List.cons_append, List.cons.injEq] at h
    obtain ⟨e1, e2⟩ := cut_eq (fun hm => h1 (List.mem_cons_of_mem _ hm)) (fun hm => h2 (List.mem_cons_of_mem _ hm)) h.2
    exact ⟨by rw [h.1, e1], e2⟩

/-- How a text is cut at its marks. -/
def Sp1 (l x y : List UInt8) : Prop := l = x ++ 47 :: y ∧ 47 ∉ x ∧ 63 ∉ y
def Sp2 (l x y z : List UInt8) : Prop := l = x ++ 47 :: (y ++ 63 :: z) ∧ 47 ∉ x ∧ 63 ∉ y

theorem sp0_no {l : List UInt8} (h0 : 47 ∉ l) {h p q : Int} (k : okA h p q = true) : atext h p q ≠ l := by
  rw [atext_ok k]; intro e; subst e; exact h0 (by unfold body; simp)
theorem sp1_of {l x y : List UInt8} (s : Sp1 l x y) {h p q : Int} (k : okA h p q = true) (e : atext h p q = l) : q = 0 ∧ x = Lib.itoa h ∧ y = Lib.itoa p := by
  obtain ⟨a0, a1, b0, b1, c0, c1⟩ := okA_iff.1 k
  rw [atext_ok k] at e
  unfold body at e
  obtain ⟨hl, hx, hy⟩ := s
  subst hl
  obtain ⟨e1, e2⟩ := cut_eq (itoa_no (by omega) (by omega) (by decide)) hx e
  by_cases hq : q = 0
  · rw [if_pos hq, List.append_nil] at e2; exact ⟨hq, e1.symm, e2.symm⟩
  · rw [if_neg hq] at e2; exact absurd (by rw [← e2]; simp) hy
theorem sp2_of {l x y z : List UInt8} (s : Sp2 l x y z) {h p q : Int} (k : okA h p q = true) (e : atext h p q = l) : q ≠ 0 ∧ x = Lib.itoa h ∧ y = Lib.itoa p ∧ z = Lib.itoa q := by
  obtain ⟨a0, a1, b0, b1, c0, c1⟩ := okA_iff.1 k
  rw [atext_ok k] at e
  unfold body at e
  obtain ⟨hl, hx, hy⟩ := s
  subst hl
  obtain ⟨e1, e2⟩ := cut_eq (itoa_no (by omega) (by omega) (by decide)) hx e
  have hp63 : (63 : UInt8) ∉ Lib.itoa p := itoa_no (by omega) (by omega) (by decide)
  by_cases hq : q = 0
  · rw [if_pos hq, List.append_nil] at e2; exact absurd (by rw [e2]; simp) hp63
  · rw [if_neg hq] at e2
    obtain ⟨e3, e4⟩ := cut_eq hp63 hy e2
    exact ⟨hq, e1.symm, e3.symm, e4.symm⟩
theorem body_sp1 {h p : Int} (k : okA h p 0 = true) : Sp1 (atext h p 0) (Lib.itoa h) (Lib.itoa p) := by
  obtain ⟨a0, a1, b0, b1, c0, c1⟩ := okA_iff.1 k
  rw [atext_ok k]
  exact ⟨by unfold body; simp, itoa_no (by omega) (by omega) (by decide), itoa_no (by omega) (by omega) (by decide)⟩
theorem body_sp2 {h p q : Int} (k : okA h p q = true) (hq : q ≠ 0) : Sp2 (atext h p q) (Lib.itoa h) (Lib.itoa p) (Lib.itoa q) := by
  obtain ⟨a0, a1, b0, b1, c0, c1⟩ := okA_iff.1 k
  rw [atext_ok k]
  exact ⟨by unfold body; simp [hq], itoa_no (by omega) (by omega) (by decide), itoa_no (by omega) (by omega) (by decide)⟩
/-- A text has one address at most. -/
theorem atext_inj {h p q h' p' q' : Int} (k : okA h p q = true) (k' : okA h' p' q' = true) (e : atext h p q = atext h' p' q') : h = h' ∧ p = p' ∧ q = q' := by
  obtain ⟨a0, a1, b0, b1, c0, c1⟩ := okA_iff.1 k
  obtain ⟨a0', a1', b0', b1', c0', c1'⟩ := okA_iff.1 k'
  by_cases hq : q' = 0
  · subst hq
    obtain ⟨e0, e1, e2⟩ := sp1_of (body_sp1 k') k e
    exact ⟨(itoa_inj (by omega) (by omega) (by omega) (by omega) e1).symm, (itoa_inj (by omega) (by omega) (by omega) (by omega) e2).symm, e0⟩
  · obtain ⟨e0, e1, e2, e3⟩ := sp2_of (body_sp2 k' hq) k e
    exact ⟨(itoa_inj (by omega) (by omega) (by omega) (by omega) e1).symm, (itoa_inj (by omega) (by omega) (by omega) (by omega) e2).symm, (itoa_inj (by omega) (by omega) (by omega) (by omega) e3).symm⟩

open Classical in
/-- The address whose text is l. -/
noncomputable def pa (l : List UInt8) : Option (Int × Int × Int) :=
  if h : ∃ t : Int × Int × Int, okA t.1 t.2.1 t.2.2 = true ∧ atext t.1 t.2.1 t.2.2 = l then some (Classical.choose h) else none
noncomputable def paH (l : List UInt8) : Int := ((pa l).getD (0, 0, 0)).1
noncomputable def paP (l : List UInt8) : Int := ((pa l).getD (0, 0, 0)).2.1
noncomputable def paQ (l : List UInt8) : Int := ((pa l).getD (0, 0, 0)).2.2
noncomputable def paY (l : List UInt8) : Bool := (pa l).isSome

theorem pa_some {l : List UInt8} {h p q : Int} (k : okA h p q = true) (e : atext h p q = l) : pa l = some (h, p, q) := by
  have hx : ∃ t : Int × Int × Int, okA t.1 t.2.1 t.2.2 = true ∧ atext t.1 t.2.1 t.2.2 = l := ⟨(h, p, q), k, e⟩
  unfold pa
  rw [dif_pos hx]
  obtain ⟨h1, h2⟩ := Classical.choose_spec hx
  obtain ⟨a, b, c⟩ := atext_inj k h1 (e.trans h2.symm)
  congr 1
  exact (Prod.ext a (Prod.ext b c)).symm
theorem pa_none {l : List UInt8} (h : ∀ h p q, okA h p q = true → atext h p q ≠ l) : pa l = none := by
  unfold pa
  rw [dif_neg]
  rintro ⟨t, k, e⟩
  exact h _ _ _ k e
theorem pa_yes {l : List UInt8} {h p q : Int} (k : okA h p q = true) (e : atext h p q = l) : paH l = h ∧ paP l = p ∧ paQ l = q ∧ paY l = true := by
  unfold paH paP paQ paY; rw [pa_some k e]; exact ⟨rfl, rfl, rfl, rfl⟩
theorem pa_no {l : List UInt8} (h : pa l = none) : paH l = 0 ∧ paP l = 0 ∧ paQ l = 0 ∧ paY l = false := by
  unfold paH paP paQ paY; rw [h]; exact ⟨rfl, rfl, rfl, rfl⟩
theorem pa_valid {l : List UInt8} (h : paY l = true) : okA (paH l) (paP l) (paQ l) = true ∧ atext (paH l) (paP l) (paQ l) = l := by
  by_cases hx : ∃ t : Int × Int × Int, okA t.1 t.2.1 t.2.2 = true ∧ atext t.1 t.2.1 t.2.2 = l
  · obtain ⟨t, k, e⟩ := hx
    obtain ⟨h1, h2, h3, _⟩ := pa_yes k e
    rw [h1, h2, h3]; exact ⟨k, e⟩
  · have := pa_none (l := l) (fun a b c k e => hx ⟨(a, b, c), k, e⟩)
    rw [(pa_no this).2.2.2] at h; cases h

/-! What becomes of the pieces. -/
theorem pnum_nil : pnum [] = none := rfl
theorem of_text {l : List UInt8} {h p q : Int} (hl : l ≠ []) (e : atext h p q = l) : okA h p q = true := by
  cases k : okA h p q with
  | true => rfl
  | false => rw [atext_bad k] at e; exact absurd e.symm hl
theorem sp0_none {l : List UInt8} (h0 : 47 ∉ l) : pa l = none := pa_none fun _ _ _ k => sp0_no h0 k
theorem sp0_other {l : List UInt8} (h0 : 47 ∉ l) (hl : l ≠ []) (h p q : Int) : atext h p q ≠ l := fun e => sp0_no h0 (of_text hl e) e
theorem pnum_ne {l : List UInt8} {m : Nat} (h : pnum l = some m) : l ≠ [] := by rintro rfl; rw [pnum_nil] at h; cases h
theorem sp1_ne {l x y : List UInt8} (s : Sp1 l x y) : l ≠ [] := by rw [s.1]; simp
theorem sp2_ne {l x y z : List UInt8} (s : Sp2 l x y z) : l ≠ [] := by rw [s.1]; simp
theorem sp1_none_x {l x y : List UInt8} (s : Sp1 l x y) (h : pnum x = none) : pa l = none := pa_none fun a b c k e => by
  obtain ⟨a0, a1, b0, b1, c0, c1⟩ := okA_iff.1 k
  obtain ⟨_, e1, e2⟩ := sp1_of s k e
  rw [e1, pnum_int a (by omega) (by omega)] at h; cases h
theorem sp1_none_y {l x y : List UInt8} (s : Sp1 l x y) (h : pnum y = none) : pa l = none := pa_none fun a b c k e => by
  obtain ⟨a0, a1, b0, b1, c0, c1⟩ := okA_iff.1 k
  obtain ⟨_, e1, e2⟩ := sp1_of s k e
  rw [e2, pnum_int b (by omega) (by omega)] at h; cases h
theorem sp1_none {l x y : List UInt8} (s : Sp1 l x y) {m n : Nat} (hm : pnum x = some m) (hn : pnum y = some n) (h : atext m n 0 ≠ l) : pa l = none := pa_none fun a b c k e => by
  obtain ⟨a0, a1, b0, b1, c0, c1⟩ := okA_iff.1 k
  obtain ⟨e0, e1, e2⟩ := sp1_of s k e
  rw [e1, pnum_int a (by omega) (by omega)] at hm
  rw [e2, pnum_int b (by omega) (by omega)] at hn
  have h1 := Option.some.inj hm
  have h2 := Option.some.inj hn
  have h3 : (m : Int) = a := by omega
  have h4 : (n : Int) = b := by omega
  rw [h3, h4] at h
  subst e0
  exact h e
theorem sp2_none_x {l x y z : List UInt8} (s : Sp2 l x y z) (h : pnum x = none) : pa l = none := pa_none fun a b c k e => by
  obtain ⟨a0, a1, b0, b1, c0, c1⟩ := okA_iff.1 k
  obtain ⟨_, e1, e2, e3⟩ := sp2_of s k e
  rw [e1, pnum_int a (by omega) (by omega)] at h; cases h
theorem sp2_none_y {l x y z : List UInt8} (s : Sp2 l x y z) (h : pnum y = none) : pa l = none := pa_none fun a b c k e => by
  obtain ⟨a0, a1, b0, b1, c0, c1⟩ := okA_iff.1 k
  obtain ⟨_, e1, e2, e3⟩ := sp2_of s k e
  rw [e2, pnum_int b (by omega) (by omega)] at h; cases h
theorem sp2_none_z {l x y z : List UInt8} (s : Sp2 l x y z) (h : pnum z = none) : pa l = none := pa_none fun a b c k e => by
  obtain ⟨a0, a1, b0, b1, c0, c1⟩ := okA_iff.1 k
  obtain ⟨_, e1, e2, e3⟩ := sp2_of s k e
  rw [e3, pnum_int c (by omega) (by omega)] at h; cases h
theorem sp2_none {l x y z : List UInt8} (s : Sp2 l x y z) {m n r : Nat} (hm : pnum x = some m) (hn : pnum y = some n) (hr : pnum z = some r) (h : atext m n r ≠ l) : pa l = none := pa_none fun a b c k e => by
  obtain ⟨a0, a1, b0, b1, c0, c1⟩ := okA_iff.1 k
  obtain ⟨e0, e1, e2, e3⟩ := sp2_of s k e
  rw [e1, pnum_int a (by omega) (by omega)] at hm
  rw [e2, pnum_int b (by omega) (by omega)] at hn
  rw [e3, pnum_int c (by omega) (by omega)] at hr
  have h1 := Option.some.inj hm
  have h2 := Option.some.inj hn
  have h3 := Option.some.inj hr
  have h4 : (m : Int) = a := by omega
  have h5 : (n : Int) = b := by omega
  have h6 : (r : Int) = c := by omega
  rw [h4, h5, h6] at h
  exact h e
theorem atext_len (h p q : Int) : (atext h p q).length ≤ 62 := by
  cases k : okA h p q with
  | false => rw [atext_bad k]; simp
  | true =>
    obtain ⟨a0, a1, b0, b1, c0, c1⟩ := okA_iff.1 k
    have h1 := itoa_len h (by omega) (by omega)
    have h2 := itoa_len p (by omega) (by omega)
    have h3 := itoa_len q (by omega) (by omega)
    rw [atext_ok k]; unfold body
    by_cases hq : q = 0
    · rw [if_pos hq]; simp only [List.length_append, List.length_cons, List.length_nil]; omega
    · rw [if_neg hq]; simp only [List.length_append, List.length_cons]; omega
end Go.Proofs.Ytagnhfalmefbhaa.Adr
