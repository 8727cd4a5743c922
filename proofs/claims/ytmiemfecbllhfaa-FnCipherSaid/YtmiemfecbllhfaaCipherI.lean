/-
  The program's Encrypt and Decrypt.
  Conditions: the row lies in memory; the key is an int.
-/
import Derived.Test.YtmiemfecbllhfaaStream
import Derived.Test.YtmiemfecbllhfaaCopy
import Derived.Test.YtmiemfecbllhfaaStep
namespace Go.Proofs.Ytmiemfecbllhfaa.Hsh
open Go Go.RowKit Go.Proofs.Ytmiemfecbllhfaa.Mem
set_option linter.unusedVariables false

set_option maxHeartbeats 4000000 in
set_option maxRecDepth 100000 in
theorem enc_impl (lo hi : Nat) (w : World) (a : Option Addr) (n c : Nat) (k : Int) (zs : List Int) (hr : Row .u8 lo hi w a n zs) (hh : hi ≤ w.heap.size) (hk : (Lit.int .i64 k).wf = true) (hn : n ≤ 549755813888) :
    Calls Try.prog 17 #[.int .i64 k, .slice a n c] w (Slice .u8 w.heap.size n (all (encAt k) zs) w) := by
  have HL := Lib.hid hr.len
  go_enter Try.func17, Try.ntmps17
  go_wp2_with fail
  go_at_call 48
  refine (stream_any k w).mono ?_
  rintro e w1 ⟨rfl, ht1, hb1, hs1⟩
  have hr1 := hr.under hb1 hh
  go_wp2_with fail
  go_at_call 49
  refine (Var.copy_any lo hi w1 a n c zs hr1 (by omega) (by omega)).mono ?_
  rintro e w2 ⟨v, rfl, hv, hb2⟩
  obtain ⟨q, m, rfl, hm1, hm2, ho2⟩ := hv.own hr.wf
  clear hv
  have hs2 := hb2.size
  have ht2 : Tape w.heap.size k (-1) w2 := ⟨by rw [hb2.block _ (by omega)]; exact ht1.1, by rw [hb2.block _ (by omega)]; exact ht1.2⟩
  have hB2 : Below w.heap.size w w2 := hb1.trans (hb2.mono (by omega))
  have hS : w.heap.size + 2 = w1.heap.size := hs1.symm
  rw [← hS] at ho2
  have hs0 : w.heap.size + 2 ≤ w2.heap.size := by omega
  have HS := Lib.hid hS
  clear hS hs1 hs2 ht1
  go_wp2_with fail
  go_loopw [14] (fun i wr => ∃ j : Nat, j ≤ n ∧ i = .int .i64 j ∧ Own .u8 (w.heap.size + 2) w2.heap.size wr q n (mix (encAt k) j zs) ∧ Tape w.heap.size k ((j : Int) - 1) wr ∧ Below w.heap.size w wr ∧ w2.heap.size ≤ wr.heap.size) (fun i _ => n - (intOf i).toNat)
  case atStart => exact ⟨0, Nat.zero_le _, rfl, by rw [mix_zero]; exact ho2, ht2, hB2, Nat.le_refl _⟩
  case round =>
    obtain ⟨j, hj, rfl, ho, ht, hbw, hsw⟩ := hrel
    clear ho2 ht2 hB2
    by_cases hlt : j < n
    · obtain ⟨g, off, rfl, hg0, hg1, hall⟩ := ho.here (by omega)
      obtain ⟨hc, hf⟩ := hall j hlt
      clear hall
      have hz := bounds_u8 (hr.wf_at hlt)
      have HM := Lib.hid (mix_at (encAt k) j zs (by have := HL.out; omega))
      have HN := Lib.hid (mix_next (encAt k) j zs (by have := HL.out; omega))
      obtain ⟨z, hzz⟩ : ∃ z, Hid (zs.getD j 0 = z) := ⟨_, rfl⟩
      rw [hzz.out] at hz HM HN
      rw [HM.out] at hc
      obtain ⟨z0, z1⟩ := hz
      have hj0 : (0 : Int) ≤ (j : Int) := by omega
      have hj1 : (j : Int) < (n : Int) := by omega
      obtain ⟨x, hx⟩ : ∃ x, Hid (khash k [(j : Int) - 1 + 1] % 256 = x) := ⟨_, rfl⟩
      have hX : 0 ≤ x ∧ x ≤ 255 := by have := hx.out; omega
      obtain ⟨x0, x1⟩ := hX
      have hnx := next_any w.heap.size k ((j : Int) - 1) x wr.drew ht hk (by omega) (by omega) hx
      have HE := Lib.hid (show encAt k j z = IntKind.u8.wrap (z + x) by unfold encAt; rw [IntKind.wrap_u8, ← hx.out, show (j : Int) - 1 + 1 = (j : Int) by omega])
      have hgl := cell_lt hc
      go_wp2_with fail
      go_region_law (first
        | (go_simp; refine hnx.mono ?_; rintro e w3 ⟨rfl, ht3, hz3⟩; have hz3' : Zone (w.heap.size + 1) (w.heap.size + 2) wr w3 := ⟨hz3.os, hz3.tape, hz3.output, hz3.size, hz3.block⟩; have hc3 : w3.cell? ⟨g, off + j, none⟩ = some (.int .u8 z) := (by rw [cell_of_heap (hz3'.block g hgl (Or.inr hg0))]; exact hc); have hf3 : w3.frozen? ⟨g, off + j, none⟩ = false := (by rw [frozen_of_heap (hz3'.block g hgl (Or.inr hg0))]; exact hf); clear hz3))
      all_goals
        have ho4 := (ho.zone hz3' (Or.inr (Nat.le_refl _))).set j (IntKind.u8.wrap (z + x)) hlt (Byt.wf_wrap _)
        rw [show (mix (encAt k) j zs).set j (IntKind.u8.wrap (z + x)) = mix (encAt k) (j + 1) zs by rw [← HE.out]; exact HN.out] at ho4
        have ht4 : Tape w.heap.size k (((j + 1 : Nat) : Int) - 1) (w3.setCell ⟨g, off + j, none⟩ (.int .u8 (IntKind.u8.wrap (z + x)))) := by
          rw [show ((j + 1 : Nat) : Int) - 1 = (j : Int) - 1 + 1 by omega]
          exact ⟨by rw [heap_setCell_other _ _ _ _ (by simp; omega)]; exact ht3.1, by rw [heap_setCell_other _ _ _ _ (by simp; omega)]; exact ht3.2⟩
        have hb4 : Below w.heap.size w (w3.setCell ⟨g, off + j, none⟩ (.int .u8 (IntKind.u8.wrap (z + x)))) := (hbw.trans (hz3'.below (by omega) hbw.size)).setCell (by simp; omega) _
        have hs4 : w2.heap.size ≤ (w3.setCell ⟨g, off + j, none⟩ (.int .u8 (IntKind.u8.wrap (z + x)))).heap.size := by have := hz3'.size; simp; omega
        go_wp2
        go_roundw
        case rel => exact ⟨j + 1, by omega, by go_num, ho4, ht4, hb4, hs4⟩
        case measure => simp [intOf]; omega
    · have hd : decide ((j : Int) < (n : Int)) = false := by simp; omega
      have HE := Lib.hid (show j = n by omega)
      have HA := Lib.hid (mix_all (encAt k) j zs (by have := HL.out; omega))
      go_wp2
      go_ret
      rw [HA.out] at ho
      exact ⟨_, _, rfl, ho.more (by omega) (by omega), hm1, hm2, hbw⟩

set_option maxHeartbeats 4000000 in
set_option maxRecDepth 100000 in
theorem dec_impl (lo hi : Nat) (w : World) (a : Option Addr) (n c : Nat) (k : Int) (zs : List Int) (hr : Row .u8 lo hi w a n zs) (hh : hi ≤ w.heap.size) (hk : (Lit.int .i64 k).wf = true) (hn : n ≤ 549755813888) :
    Calls Try.prog 16 #[.int .i64 k, .slice a n c] w (Slice .u8 w.heap.size n (all (decAt k) zs) w) := by
  have HL := Lib.hid hr.len
  go_enter Try.func16, Try.ntmps16
  go_wp2_with fail
  go_at_call 48
  refine (stream_any k w).mono ?_
  rintro e w1 ⟨rfl, ht1, hb1, hs1⟩
  have hr1 := hr.under hb1 hh
  go_wp2_with fail
  go_at_call 49
  refine (Var.copy_any lo hi w1 a n c zs hr1 (by omega) (by omega)).mono ?_
  rintro e w2 ⟨v, rfl, hv, hb2⟩
  obtain ⟨q, m, rfl, hm1, hm2, ho2⟩ := hv.own hr.wf
  clear hv
  have hs2 := hb2.size
  have ht2 : Tape w.heap.size k (-1) w2 := ⟨by rw [hb2.block _ (by omega)]; exact ht1.1, by rw [hb2.block _ (by omega)]; exact ht1.2⟩
  have hB2 : Below w.heap.size w w2 := hb1.trans (hb2.mono (by omega))
  have hS : w.heap.size + 2 = w1.heap.size := hs1.symm
  rw [← hS] at ho2
  have hs0 : w.heap.size + 2 ≤ w2.heap.size := by omega
  have HS := Lib.hid hS
  clear hS hs1 hs2 ht1
  go_wp2_with fail
  go_loopw [14] (fun i wr => ∃ j : Nat, j ≤ n ∧ i = .int .i64 j ∧ Own .u8 (w.heap.size + 2) w2.heap.size wr q n (mix (decAt k) j zs) ∧ Tape w.heap.size k ((j : Int) - 1) wr ∧ Below w.heap.size w wr ∧ w2.heap.size ≤ wr.heap.size) (fun i _ => n - (intOf i).toNat)
  case atStart => exact ⟨0, Nat.zero_le _, rfl, by rw [mix_zero]; exact ho2, ht2, hB2, Nat.le_refl _⟩
  case round =>
    obtain ⟨j, hj, rfl, ho, ht, hbw, hsw⟩ := hrel
    clear ho2 ht2 hB2
    by_cases hlt : j < n
    · obtain ⟨g, off, rfl, hg0, hg1, hall⟩ := ho.here (by omega)
      obtain ⟨hc, hf⟩ := hall j hlt
      clear hall
      have hz := bounds_u8 (hr.wf_at hlt)
      have HM := Lib.hid (mix_at (decAt k) j zs (by have := HL.out; omega))
      have HN := Lib.hid (mix_next (decAt k) j zs (by have := HL.out; omega))
      obtain ⟨z, hzz⟩ : ∃ z, Hid (zs.getD j 0 = z) := ⟨_, rfl⟩
      rw [hzz.out] at hz HM HN
      rw [HM.out] at hc
      obtain ⟨z0, z1⟩ := hz
      have hj0 : (0 : Int) ≤ (j : Int) := by omega
      have hj1 : (j : Int) < (n : Int) := by omega
      obtain ⟨x, hx⟩ : ∃ x, Hid (khash k [(j : Int) - 1 + 1] % 256 = x) := ⟨_, rfl⟩
      have hX : 0 ≤ x ∧ x ≤ 255 := by have := hx.out; omega
      obtain ⟨x0, x1⟩ := hX
      have hnx := next_any w.heap.size k ((j : Int) - 1) x wr.drew ht hk (by omega) (by omega) hx
      have HE := Lib.hid (show decAt k j z = IntKind.u8.wrap (z - x) by unfold decAt; rw [IntKind.wrap_u8, ← hx.out, show (j : Int) - 1 + 1 = (j : Int) by omega])
      have hgl := cell_lt hc
      go_wp2_with fail
      go_region_law (first
        | (go_simp; refine hnx.mono ?_; rintro e w3 ⟨rfl, ht3, hz3⟩; have hz3' : Zone (w.heap.size + 1) (w.heap.size + 2) wr w3 := ⟨hz3.os, hz3.tape, hz3.output, hz3.size, hz3.block⟩; have hc3 : w3.cell? ⟨g, off + j, none⟩ = some (.int .u8 z) := (by rw [cell_of_heap (hz3'.block g hgl (Or.inr hg0))]; exact hc); have hf3 : w3.frozen? ⟨g, off + j, none⟩ = false := (by rw [frozen_of_heap (hz3'.block g hgl (Or.inr hg0))]; exact hf); clear hz3))
      all_goals
        have ho4 := (ho.zone hz3' (Or.inr (Nat.le_refl _))).set j (IntKind.u8.wrap (z - x)) hlt (Byt.wf_wrap _)
        rw [show (mix (decAt k) j zs).set j (IntKind.u8.wrap (z - x)) = mix (decAt k) (j + 1) zs by rw [← HE.out]; exact HN.out] at ho4
        have ht4 : Tape w.heap.size k (((j + 1 : Nat) : Int) - 1) (w3.setCell ⟨g, off + j, none⟩ (.int .u8 (IntKind.u8.wrap (z - x)))) := by
          rw [show ((j + 1 : Nat) : Int) - 1 = (j : Int) - 1 + 1 by omega]
          exact ⟨by rw [heap_setCell_other _ _ _ _ (by simp; omega)]; exact ht3.1, by rw [heap_setCell_other _ _ _ _ (by simp; omega)]; exact ht3.2⟩
        have hb4 : Below w.heap.size w (w3.setCell ⟨g, off + j, none⟩ (.int .u8 (IntKind.u8.wrap (z - x)))) := (hbw.trans (hz3'.below (by omega) hbw.size)).setCell (by simp; omega) _
        have hs4 : w2.heap.size ≤ (w3.setCell ⟨g, off + j, none⟩ (.int .u8 (IntKind.u8.wrap (z - x)))).heap.size := by have := hz3'.size; simp; omega
        go_wp2
        go_roundw
        case rel => exact ⟨j + 1, by omega, by go_num, ho4, ht4, hb4, hs4⟩
        case measure => simp [intOf]; omega
    · have hd : decide ((j : Int) < (n : Int)) = false := by simp; omega
      have HE := Lib.hid (show j = n by omega)
      have HA := Lib.hid (mix_all (decAt k) j zs (by have := HL.out; omega))
      go_wp2
      go_ret
      rw [HA.out] at ho
      exact ⟨_, _, rfl, ho.more (by omega) (by omega), hm1, hm2, hbw⟩
end Go.Proofs.Ytmiemfecbllhfaa.Hsh
