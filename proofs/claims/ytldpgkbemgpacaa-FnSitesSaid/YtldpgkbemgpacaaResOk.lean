/-
  Numbers of a body in range: the program's allInRange at 0 and 255, the model's l5Bytes.
  Conditions: the body is a row in memory.
-/
import Derived.Test.YtldpgkbemgpacaaInts
import Derived.Test.YtldpgkbemgpacaaRange
import Derived.Test.YtldpgkbemgpacaaAddrMath
namespace Go.Proofs.Ytldpgkbemgpacaa.Res
open Go Go.RowKit Go.Proofs.Ytldpgkbemgpacaa.Mem Go.Proofs.Ytldpgkbemgpacaa.Range

def inB (z : Int) : Bool := decide (0 ≤ z ∧ z ≤ 255)
def allB (zs : List Int) : Bool := zs.all inB
theorem drop_at' {zs : List Int} {p : Nat} (h : p < zs.length) : zs.drop p = zs.getD p 0 :: zs.drop (p + 1) := by
  rw [List.drop_eq_getElem_cons h, List.getD_eq_getElem?_getD, List.getElem?_eq_getElem h]; rfl
theorem allB_next {zs : List Int} {j : Nat} {R : Bool} (h : allB (zs.drop j) = R) (hj : j < zs.length) (h0 : 0 ≤ zs.getD j 0) (h1 : zs.getD j 0 ≤ 255) : allB (zs.drop (j + 1)) = R := by
  rw [drop_at' hj] at h
  generalize zs.getD j 0 = z at h h0 h1
  simpa [allB, inB, h0, h1] using h
theorem allB_no {zs : List Int} {j : Nat} {R : Bool} (h : allB (zs.drop j) = R) (hj : j < zs.length) (h0 : zs.getD j 0 < 0 ∨ 255 < zs.getD j 0) : R = false := by
  rw [drop_at' hj] at h
  rw [← h]
  generalize zs.getD j 0 = z at h0
  simp [allB, inB]
  intro a b
  omega
theorem allB_end {zs : List Int} {j : Nat} {R : Bool} (h : allB (zs.drop j) = R) (hj : zs.length ≤ j) : R = true := by
  rw [List.drop_of_length_le hj] at h
  rw [← h]; rfl

set_option maxHeartbeats 800000 in
set_option maxRecDepth 100000 in
theorem bytes_spec (lo hi : Nat) (w : World) (a : Option Addr) (n c : Nat) (zs : List Int) (hr : Row .i64 lo hi w a n zs) (hn : n ≤ 9223372036854775807) :
    Calls Try.prog 72 #[.slice a n c] w fun e w' => e = .returned (.bool (allB zs)) ∧ Below w.heap.size w w' := by
  obtain ⟨R, hR⟩ : ∃ R, allB zs = R := ⟨_, rfl⟩
  rw [hR]
  have hl := Lib.hid hr.len
  have HR : Hid (allB (zs.drop 0) = R) := by rw [List.drop_zero]; exact hR
  clear hR
  go_enter Try.func72, Try.ntmps72
  go_wp2
  go_loopw [3] (fun i wr => ∃ j m : Nat, j ≤ n ∧ i = .int .i64 j ∧ wr = w.drewN m ∧ Hid (allB (zs.drop j) = R)) (fun i _ => n - (intOf i).toNat)
  case atStart => exact ⟨0, 0, Nat.zero_le _, rfl, rfl, HR⟩
  case round =>
    obtain ⟨j, m, hj, rfl, rfl, hq⟩ := hrel
    by_cases hlt : j < n
    · obtain ⟨b, o, rfl, _, _, hc⟩ := (hr.drewN m).cell hlt
      by_cases hin : 0 ≤ zs.getD j 0 ∧ zs.getD j 0 ≤ 255
      · have hq1 := Lib.hid (allB_next hq.out (by rw [hl.out]; exact hlt) hin.1 hin.2)
        have hI := fun W => l1_yes (zs.getD j 0) 0 255 W hin.1 hin.2
        go_wp2_with (go_at_call 52; refine (hI _).mono ?_; rintro e w1 ⟨rfl, rfl⟩)
        go_roundw
        case rel => exact ⟨j + 1, _, by omega, by go_num, rfl, hq1⟩
        case measure => simp [intOf]; omega
      · have hf := allB_no hq.out (by rw [hl.out]; exact hlt) (by omega)
        have hI := fun W => l1_no (zs.getD j 0) 0 255 W (by omega)
        go_wp2_with (go_at_call 52; refine (hI _).mono ?_; rintro e w1 ⟨rfl, rfl⟩)
        go_ret
        subst hf
        exact ⟨rfl, Mem.below_drewN (Below.refl _ _) _⟩
    · have hd : decide ((j : Int) < (n : Int)) = false := by simp; omega
      have ht := allB_end hq.out (by rw [hl.out]; omega)
      go_wp2
      go_ret
      subst ht
      exact ⟨rfl, Mem.below_drewN (Below.refl _ _) _⟩

set_option maxHeartbeats 800000 in
set_option maxRecDepth 100000 in
theorem bytes_impl (lo hi : Nat) (w : World) (a : Option Addr) (n c : Nat) (zs : List Int) (hr : Row .i64 lo hi w a n zs) (hn : n ≤ 9223372036854775807) :
    Calls Try.prog 120 #[.slice a n c, .int .i64 0, .int .i64 255] w fun e w' => e = .returned (.bool (allB zs)) ∧ Below w.heap.size w w' := by
  obtain ⟨R, hR⟩ : ∃ R, allB zs = R := ⟨_, rfl⟩
  rw [hR]
  have hl := Lib.hid hr.len
  have HR : Hid (allB (zs.drop 0) = R) := by rw [List.drop_zero]; exact hR
  clear hR
  go_enter Try.func120, Try.ntmps120
  go_wp2
  go_loopw [8, 11] (fun v i wr => ∃ j m : Nat, j ≤ n ∧ i = .int .i64 j ∧ wr = w.drewN m ∧ Hid (allB (zs.drop j) = R)) (fun _ i _ => n - (intOf i).toNat)
  case atStart => exact ⟨0, 0, Nat.zero_le _, rfl, rfl, HR⟩
  case round =>
    obtain ⟨j, m, hj, rfl, rfl, hq⟩ := hrel
    by_cases hlt : j < n
    · obtain ⟨b, o, rfl, _, _, hc⟩ := (hr.drewN m).cell hlt
      by_cases hin : 0 ≤ zs.getD j 0 ∧ zs.getD j 0 ≤ 255
      · have hq1 := Lib.hid (allB_next hq.out (by rw [hl.out]; exact hlt) hin.1 hin.2)
        have hI := fun W => in_yes (zs.getD j 0) 0 255 W hin.1 hin.2
        go_wp2_with (go_at_call 46; refine (hI _).mono ?_; rintro e w1 ⟨rfl, rfl⟩)
        go_roundw
        case rel => exact ⟨j + 1, _, by omega, by go_num, rfl, hq1⟩
        case measure => simp [intOf]; omega
      · have hf := allB_no hq.out (by rw [hl.out]; exact hlt) (by omega)
        have hI := fun W => in_no (zs.getD j 0) 0 255 W (by omega)
        go_wp2_with (go_at_call 46; refine (hI _).mono ?_; rintro e w1 ⟨rfl, rfl⟩)
        go_ret
        subst hf
        exact ⟨rfl, Mem.below_drewN (Below.refl _ _) _⟩
    · have hd : decide ((j : Int) < (n : Int)) = false := by simp; omega
      have ht := allB_end hq.out (by rw [hl.out]; omega)
      go_wp2
      go_ret
      subst ht
      exact ⟨rfl, Mem.below_drewN (Below.refl _ _) _⟩
end Go.Proofs.Ytldpgkbemgpacaa.Res
