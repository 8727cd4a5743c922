/-
  The model's FormatInt returns the decimal numeral of every int; of what was in memory nothing is changed.
  Conditions: the argument is an int of 64 bits.
-/
import Derived.Test.YtpemjlmopnndbaaDoorRows
import Derived.Test.YtpemjlmopnndbaaDoorFmtMath
import Derived.WalkKit
import Derived.Laws.IdiomStrings
namespace Go.Proofs.YtpemjlmopnndbaaDoor.Fmt
open Go Go.RowKit

/-- One digit as a text. -/
theorem digit_text (wr : World) (m : Nat) (z : Int) (hz : z = 48 + (m : Int) % 10) : (convert 38 9 (Value.slice (some ⟨wr.heap.size, 0, none⟩) 1 1)).run Tryd.prog (wr.alloc (Obj.cells #[Value.int IntKind.u8 z] 5)) = .ok (.string ⟨[dg1 m].toArray⟩) (wr.alloc (Obj.cells #[Value.int IntKind.u8 z] 5)) := by
  have := run_convert_bytes_back (P := Tryd.prog) (wr.alloc (Obj.cells #[Value.int IntKind.u8 z] 5)) 38 9 5 ⟨wr.heap.size, 0, none⟩ 1 [dg1 m] Tryd.underlying38 Tryd.underlying5 Tryd.underlying9 (by
    intro j hj
    have hj0 : j = 0 := by simp at hj; omega
    subst hj0
    have h1 := World.cell?_alloc_mark wr #[Value.int IntKind.u8 z] 5 (0, 0) 0
    have h2 : (⟨wr.heap.size, 0, none⟩ : Addr).add 0 = ⟨wr.heap.size, 0, none⟩ := rfl
    rw [h2, h1]
    have h3 : ((dg1 m).toNat : Int) = z := by
      have : (dg1 m).toNat = 48 + m % 10 := by unfold dg1; rw [UInt8.toNat_ofNat']; omega
      omega
    simp [h3])
  exact this

set_option maxHeartbeats 400000 in
set_option maxRecDepth 100000 in
theorem sfmt_pos (n : Int) (w : World) (h0 : 0 < n) (h1 : n ≤ 9223372036854775807) :
    Calls Tryd.prog 10 #[.int .i64 n] w fun e w' => e = .returned (.string ⟨(dgs n.toNat).toArray⟩) ∧ Below w.heap.size w w' := by
  have hz : (n == 0) = false := by simp; omega
  have hneg : ¬ n < 0 := by omega
  go_enter Tryd.func10, Tryd.ntmps10
  go_wp2
  go_loopw [3, 4] (fun s x wr => ∃ (m : Nat) (t : List UInt8), m ≤ n.toNat ∧ x = .int .i64 m ∧ s = .string ⟨t.toArray⟩ ∧ dgs n.toNat = dgs m ++ t ∧ Below w.heap.size w wr) (fun _ x _ => (intOf x).toNat)
  case atStart => exact ⟨n.toNat, [], Nat.le_refl _, by go_num, rfl, by simp, Below.refl _ _⟩
  case round =>
    obtain ⟨m, t, hm, rfl, rfl, ht, hb⟩ := hrel
    by_cases hm0 : 0 < m
    · have hne : ((m : Int) != 0) = true := by simp; omega
      have hlen := text_len ht (by omega)
      have ht' := round_dgs ht hm0
      have hcv := digit_text wr m _ rfl
      clear ht
      go_wp2
      go_roundw
      case rel => exact ⟨m / 10, _, by omega, by go_num, rfl, by simpa using ht', hb.alloc hb.size _⟩
      case measure => simp [intOf]; omega
    · have hm1 : m = 0 := by omega
      subst hm1
      rw [dgs_zero, List.nil_append] at ht
      go_wp2
      go_ret
      exact ⟨by rw [ht]; rfl, hb⟩

set_option maxHeartbeats 400000 in
set_option maxRecDepth 100000 in
theorem sfmt_neg (n : Int) (w : World) (h0 : n < 0) (h1 : -9223372036854775808 ≤ n) :
    Calls Tryd.prog 10 #[.int .i64 n] w fun e w' => e = .returned (.string ⟨(45 :: dgs n.natAbs).toArray⟩) ∧ Below w.heap.size w w' := by
  have hz : (n == 0) = false := by simp; omega
  go_enter Tryd.func10, Tryd.ntmps10
  go_wp2
  go_loopw [3, 4] (fun s x wr => ∃ (m : Nat) (t : List UInt8), m ≤ n.natAbs ∧ x = .int .i64 (-(m : Int)) ∧ s = .string ⟨t.toArray⟩ ∧ dgs n.natAbs = dgs m ++ t ∧ Below w.heap.size w wr) (fun _ x _ => (intOf x).natAbs)
  case atStart => exact ⟨n.natAbs, [], Nat.le_refl _, by congr 1; omega, rfl, by simp, Below.refl _ _⟩
  case round =>
    obtain ⟨m, t, hm, rfl, rfl, ht, hb⟩ := hrel
    by_cases hm0 : 0 < m
    · have hne : (-(m : Int) != 0) = true := by simp; omega
      have hlen := text_len ht (by omega)
      have ht' := round_dgs ht hm0
      have htm : (-(m : Int)).tmod 10 = -((m : Int) % 10) := by rw [Int.neg_tmod, Int.tmod_eq_emod_of_nonneg (by omega)]
      have htd : (-(m : Int)).tdiv 10 = -((m : Int) / 10) := by rw [Int.neg_tdiv, Int.tdiv_eq_ediv_of_nonneg (by omega)]
      clear ht
      by_cases hd : 0 < m % 10
      · have hcv := digit_text wr m _ rfl
        have hdi : 0 < (m : Int) % 10 := by omega
        go_wp2
        go_roundw
        case rel => exact ⟨m / 10, _, by omega, by go_num, rfl, by simpa using ht', hb.alloc hb.size _⟩
        case measure => simp [intOf]; omega
      · have hcv := digit_text wr m (48 + -((m : Int) % 10)) (by omega)
        have hdi : (m : Int) % 10 ≤ 0 := by omega
        go_wp2
        go_roundw
        case rel => exact ⟨m / 10, _, by omega, by go_num, rfl, by simpa using ht', hb.alloc hb.size _⟩
        case measure => simp [intOf]; omega
    · have hm1 : m = 0 := by omega
      subst hm1
      rw [dgs_zero, List.nil_append] at ht
      have hlen : t.length ≤ 19 := text_len (n := n.natAbs) (m := 0) (t := t) (by rw [dgs_zero]; simpa using ht) (by omega)
      go_wp2
      go_ret
      exact ⟨by rw [ht]; simp; exact ByteArray.mk_append_mk [45] t, hb⟩
set_option maxRecDepth 100000 in
theorem sfmt_zero (w : World) :
    Calls Tryd.prog 10 #[.int .i64 0] w fun e w' => e = .returned (.string ⟨[48].toArray⟩) ∧ Below w.heap.size w w' := by
  go_enter Tryd.func10, Tryd.ntmps10
  go_wp2
  go_ret
  exact ⟨rfl, Below.refl _ _⟩

/-- The model's FormatInt. -/
theorem sfmt_any (n : Int) (w : World) (h0 : -9223372036854775808 ≤ n) (h1 : n ≤ 9223372036854775807) :
    Calls Tryd.prog 10 #[.int .i64 n] w fun e w' => e = .returned (.string ⟨(Lib.itoa n).toArray⟩) ∧ Below w.heap.size w w' := by
  rcases Int.lt_trichotomy n 0 with h | h | h
  · rw [itoa_of_neg h]; exact sfmt_neg n w h h0
  · subst h; rw [itoa_zero]; exact sfmt_zero w
  · rw [itoa_of_pos h]; exact sfmt_pos n w h h1
end Go.Proofs.YtpemjlmopnndbaaDoor.Fmt
