/-
  The model's ParseInt finds the number from 0 to 1000000000000 whose numeral the text is, or tells that there is none.
  Conditions: the text is no longer than a string of Go can be.
-/
import Derived.Test.YtpplinfjpbfaoaaDoorRows
import Derived.Test.YtpplinfjpbfaoaaDoorParseMath
import Derived.Test.YtpplinfjpbfaoaaDoorFmtSpec
import Derived.WalkKit
import Derived.Lib.Strings
namespace Go.Proofs.YtpplinfjpbfaoaaDoor.Fmt
open Go Go.RowKit

/-- What ParseInt hands back. -/
def pval (l : List UInt8) : Int := match pnum l with
  | some m => m
  | none => 0
def pyes (l : List UInt8) : Bool := (pnum l).isSome
def PRes (l : List UInt8) (e : Ending) : Prop := e = .returned (.tuple #[.int .i64 (pval l), .bool (pyes l)])

theorem pres_no {l : List UInt8} (h : pnum l = none) : PRes l (.returned (.tuple #[.int .i64 0, .bool false])) := by
  unfold PRes pval pyes; rw [h]; rfl
theorem pres_yes {l : List UInt8} {m : Nat} (h : pnum l = some m) : PRes l (.returned (.tuple #[.int .i64 m, .bool true])) := by
  unfold PRes pval pyes; rw [h]; rfl

theorem take_snoc (s : ByteArray) (k : Nat) (h : k < s.size) : s.data.toList.take (k + 1) = s.data.toList.take k ++ [s[k]] := by
  rw [List.take_succ_eq_append_getElem (by simpa using h)]; rfl
theorem len_eq (s : ByteArray) : s.data.toList.length = s.size := by simp

theorem pnum_short {s : ByteArray} (h : s.size = 0) : pnum s.data.toList = none := by
  have : s.data.toList = [] := List.eq_nil_of_length_eq_zero (by rw [len_eq]; exact h)
  rw [this]; rfl
theorem pnum_long {s : ByteArray} (h : 13 < s.size) : pnum s.data.toList = none := by
  cases hp : pnum s.data.toList with
  | none => rfl
  | some m => have := (pnum_some hp).2.1; rw [len_eq] at this; omega

/-- The number that the first k bytes spell. -/
def spelt (s : ByteArray) (k v : Nat) : Prop := Lib.decFrom 0 (s.data.toList.take k) = some v
theorem spelt_zero (s : ByteArray) : spelt s 0 0 := by unfold spelt; rw [List.take_zero]; rfl
theorem spelt_lt {s : ByteArray} {k v : Nat} (h : spelt s k v) (hk : k ≤ 13) : v < 10000000000000 := by
  have h1 := Lib.decFrom_lt _ _ _ h
  have h2 : (s.data.toList.take k).length ≤ 13 := by rw [List.length_take]; omega
  have h3 : 10 ^ (s.data.toList.take k).length ≤ 10 ^ 13 := Nat.pow_le_pow_right (by decide) h2
  omega
theorem spelt_succ {s : ByteArray} {k v : Nat} (h : spelt s k v) (hk : k < s.size) (h0 : 48 ≤ s[k].toNat) (h1 : s[k].toNat ≤ 57) : spelt s (k + 1) (v * 10 + (s[k].toNat - 48)) := by
  unfold spelt at *
  rw [take_snoc s k hk, decFrom_append _ _ _ _ h]
  simp only [Lib.decFrom, digit_of h0 h1]
theorem spelt_stop {s : ByteArray} {k v : Nat} (_h : spelt s k v) (hk : k < s.size) (hd : ¬ (48 ≤ s[k].toNat ∧ s[k].toNat ≤ 57)) : pnum s.data.toList = none := by
  cases hp : pnum s.data.toList with
  | none => rfl
  | some m =>
    have hd1 := (pnum_some hp).1
    unfold Lib.decNat at hd1
    split at hd1
    · cases hd1
    · obtain ⟨d, hx⟩ := Lib.digit_of_decFrom _ _ _ hd1 k s[k] (by rw [List.getElem?_eq_getElem (by rw [len_eq]; exact hk)]; rfl)
      rw [no_digit hd] at hx; cases hx
theorem spelt_all {s : ByteArray} {v : Nat} (h : spelt s s.size v) (h0 : 0 < s.size) : Lib.decNat s.data.toList = some v := by
  unfold spelt at h
  rw [List.take_of_length_le (by rw [len_eq]; exact Nat.le_refl _)] at h
  unfold Lib.decNat
  have : s.data.toList.isEmpty = false := by
    cases hx : s.data.toList with
    | nil => have := len_eq s; rw [hx] at this; simp at this; omega
    | cons => rfl
  rw [this]; exact h
theorem pnum_big {s : ByteArray} {v : Nat} (h : Lib.decNat s.data.toList = some v) (hv : 1000000000000 < v) : pnum s.data.toList = none := by
  cases hp : pnum s.data.toList with
  | none => rfl
  | some m => obtain ⟨h1, _, h2, _⟩ := pnum_some hp; rw [h] at h1; obtain rfl := Option.some.inj h1; omega
theorem pnum_other {s : ByteArray} {v : Nat} (h : Lib.decNat s.data.toList = some v) (hi : Lib.itoa v ≠ s.data.toList) : pnum s.data.toList = none := by
  cases hp : pnum s.data.toList with
  | none => rfl
  | some m => obtain ⟨h1, _, _, h2⟩ := pnum_some hp; rw [h] at h1; obtain rfl := Option.some.inj h1; exact absurd h2 hi

set_option maxHeartbeats 800000 in
set_option maxRecDepth 100000 in
theorem sparse_any (s : ByteArray) (w : World) (hs : s.size ≤ 9223372036854775807) :
    Calls Tryd.prog 13 #[.string s] w fun e w' => PRes s.data.toList e ∧ Below w.heap.size w w' := by
  by_cases hs0 : s.size = 0
  · have hp := pnum_short hs0
    have hlt : (s.size : Int) < 1 := by omega
    go_enter Tryd.func13, Tryd.ntmps13
    go_wp2
    go_ret2
    exact ⟨pres_no hp, Below.refl _ _⟩
  by_cases hs1 : 13 < s.size
  · have hp := pnum_long hs1
    have hlt : decide ((s.size : Int) ≤ 13) = false := by simp; omega
    have hge : (1 : Int) ≤ (s.size : Int) := by omega
    go_enter Tryd.func13, Tryd.ntmps13
    go_wp2
    go_ret2
    exact ⟨pres_no hp, Below.refl _ _⟩
  have hge : (1 : Int) ≤ (s.size : Int) := by omega
  have hle : (s.size : Int) ≤ 13 := by omega
  go_enter Tryd.func13, Tryd.ntmps13
  go_wp2
  go_loop [4, 5] (fun n i => ∃ k v : Nat, k ≤ s.size ∧ i = .int .i64 k ∧ n = .int .i64 v ∧ spelt s k v) (fun _ i => s.size - (intOf i).toNat)
  case atStart => exact ⟨0, 0, Nat.zero_le _, rfl, rfl, spelt_zero s⟩
  case round =>
    obtain ⟨k, v, hk, rfl, rfl, hv⟩ := hrel
    have hvb := spelt_lt hv (by omega)
    by_cases hlt : k < s.size
    · have hb8 : s[k].toNat < 256 := s[k].toNat_lt
      by_cases hd0 : 48 ≤ s[k].toNat
      · by_cases hd1 : s[k].toNat ≤ 57
        · have hn := spelt_succ hv hlt hd0 hd1
          have hx : decide ((s[k].toNat : Int) ≤ 57) = true := by simp; omega
          go_wp2
          go_round
          case rel => exact ⟨k + 1, _, by omega, by go_num, by congr 1; omega, hn⟩
          case measure => simp [intOf]; omega
        · have hp := spelt_stop hv hlt (by omega)
          have hx : decide ((s[k].toNat : Int) ≤ 57) = false := by simp; omega
          go_wp2
          go_ret2
          exact ⟨pres_no hp, Below.refl _ _⟩
      · have hp := spelt_stop hv hlt (by omega)
        go_wp2
        go_ret2
        exact ⟨pres_no hp, Below.refl _ _⟩
    · obtain rfl : k = s.size := by omega
      have hall := spelt_all hv (by omega)
      by_cases hbig : 1000000000000 < v
      · have hp := pnum_big hall hbig
        go_wp2
        go_ret2
        exact ⟨pres_no hp, Below.refl _ _⟩
      · have hbig' : (v : Int) ≤ 1000000000000 := by omega
        by_cases hi : Lib.itoa v = s.data.toList
        · have hp := pnum_of hall (by rw [len_eq]; omega) (by omega) hi
          have hc : (Lib.itoa (v : Int) == s.toList) = true := by rw [Lib.toList_data, hi]; simp
          go_wp2_with (go_at_call 17; refine (sfmt_any v _ (by omega) (by omega)).mono ?_; rintro e w1 ⟨rfl, hb1⟩)
          go_ret2
          exact ⟨pres_yes hp, hb1⟩
        · have hp := pnum_other hall hi
          have hc : (Lib.itoa (v : Int) == s.toList) = false := by rw [Lib.toList_data]; simpa using hi
          go_wp2_with (go_at_call 17; refine (sfmt_any v _ (by omega) (by omega)).mono ?_; rintro e w1 ⟨rfl, hb1⟩)
          go_ret2
          exact ⟨pres_no hp, hb1⟩

theorem sparse_says (s : ByteArray) (w : World) (hs : s.size ≤ 9223372036854775807) :
    Calls Tryd.prog 13 #[.string s] w fun e w' => e = .returned (.tuple #[.int .i64 (pval s.data.toList), .bool (pyes s.data.toList)]) ∧ Below w.heap.size w w' := sparse_any s w hs
end Go.Proofs.YtpplinfjpbfaoaaDoor.Fmt
