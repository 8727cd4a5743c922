/-
  The model's Encrypt and Decrypt.
  Conditions: the row lies in memory; the key is an int.
-/
import Derived.Test.YtmiemfecbllhfaaKeyed
import Derived.Test.YtmiemfecbllhfaaStep
namespace Go.Proofs.Ytmiemfecbllhfaa.Hsh
open Go Go.RowKit Go.Proofs.Ytmiemfecbllhfaa.Mem
set_option linter.unusedVariables false

/-- The byte as the model's operations give it. -/
def encRaw (z y : Int) : Int := IntKind.u8.wrap ((IntKind.i64.wrap (IntKind.i64.wrap z + y.tmod 256)).tmod 256)
theorem encRaw_eq (z y : Int) (z0 : 0 ≤ z) (z1 : z ≤ 255) (y0 : 0 ≤ y) (y1 : y < 2147483647) : encRaw z y = (z + y % 256) % 256 := by
  unfold encRaw
  have h1 : IntKind.i64.wrap z = z := by rw [IntKind.wrap_i64]; omega
  have h2 : IntKind.i64.wrap (z + y % 256) = z + y % 256 := by rw [IntKind.wrap_i64]; omega
  rw [h1, Int.tmod_eq_emod_of_nonneg y0, h2, Int.tmod_eq_emod_of_nonneg (by omega), IntKind.wrap_u8]
  omega

set_option maxHeartbeats 4000000 in
set_option maxRecDepth 100000 in
theorem enc_spec (lo hi : Nat) (w : World) (a : Option Addr) (n c : Nat) (k : Int) (zs : List Int) (hr : Row .u8 lo hi w a n zs) (hh : hi ≤ w.heap.size) (hk : (Lit.int .i64 k).wf = true) (hn : n ≤ 549755813888) :
    Calls Try.prog 38 #[.int .i64 k, .slice a n c] w (Slice .u8 w.heap.size n (all (encAt k) zs) w) := by
  obtain ⟨i0, hi0, hz0, hz1, hz2⟩ := info_parts Byt.info
  have HL := Lib.hid hr.len
  have hs := OwnI.made .u8 5 (base := w.heap.size) w (Nat.le_refl _)
  have hb := (Below.refl w.heap.size w).alloc (Nat.le_refl _) (.cells #[] 5)
  go_enter Try.func38, Try.ntmps38
  go_wp2
  go_loopw [5, 6] (fun v i wr => ∃ j : Nat, j ≤ n ∧ i = .int .i64 j ∧ OwnI .u8 5 w.heap.size wr v j (upTo (encAt k) j zs) ∧ Below w.heap.size w wr) (fun _ i _ => n - (intOf i).toNat)
  case atStart => exact ⟨0, Nat.zero_le _, rfl, hs, hb⟩
  case round =>
    obtain ⟨j, hj, rfl, ho, hbw⟩ := hrel
    clear hs hb
    have hbs := hbw.size
    by_cases hlt : j < n
    · obtain ⟨b, off, rfl, _, hbh, hc⟩ := (hr.under hbw hh).cell hlt
      have hz := bounds_u8 (hr.wf_at hlt)
      have HN := Lib.hid (upTo_next (encAt k) j zs (by have := HL.out; omega))
      obtain ⟨z, hzz⟩ : ∃ z, Hid (zs.getD j 0 = z) := ⟨_, rfl⟩
      rw [hzz.out] at hc hz HN
      obtain ⟨z0, z1⟩ := hz
      have hbl := cell_lt hc
      have hj0 : (0 : Int) ≤ (j : Int) := by omega
      have hj1 : (j : Int) < (n : Int) := by omega
      -- the call's world
      have hcell : (wr.drew.alloc (.cells #[.int .i64 (j : Int)] 3)).cell? ⟨wr.heap.size, 0, none⟩ = some (.int .i64 (j : Int)) := by
        rw [World.cell?_alloc_at _ _ _ _ (by simp)]; rfl
      have hrow := one_row (j : Int) (wr.drew.alloc (.cells #[.int .i64 (j : Int)] 3)) wr wr.heap.size (WalkArith.wf_i64 (by omega)) hcell
      have hkh := khash_spec _ _ _ _ 1 1 k _ hrow (by simp) hk (by omega)
      have hR := khash_range k [(j : Int)]
      have hbd : Below wr.heap.size wr (wr.drew.alloc (.cells #[.int .i64 (j : Int)] 3)) :=
        (show Below wr.heap.size wr wr.drew from ⟨rfl, rfl, rfl, Nat.le_refl _, fun _ _ => rfl⟩).alloc (Nat.le_refl _) _
      obtain ⟨y, hy⟩ : ∃ y, Hid (khash k [(j : Int)] = y) := ⟨_, rfl⟩
      rw [hy.out] at hR hkh
      obtain ⟨y0, y1⟩ := hR
      have HE := Lib.hid (show encAt k j z = encRaw z y by rw [encRaw_eq z y z0 z1 y0 y1]; unfold encAt; rw [hy.out])
      go_wp2_with fail
      go_region_law (first
        | (go_simp; go_at_call 29; refine hkh.mono ?_; rintro e w2 ⟨rfl, hb2⟩; have hB2 : Below wr.heap.size wr w2 := hbd.trans (hb2.mono hbd.size); have hc2 : w2.cell? ⟨b, off + j, none⟩ = some (.int .u8 z) := (by rw [cell_of_heap (hB2.block b hbl)]; exact hc); have ho2 := (ho.below hB2).alloc (.cells #[.int .u8 (IntKind.u8.wrap ((IntKind.i64.wrap (IntKind.i64.wrap z + y.tmod 256)).tmod 256))] 5); clear hb2)
        | (refine step_append_one rfl _ _ 22 rfl w.heap.size 5 i0 _ 1 Try.underlying22 hi0 hz0 hz1 hz2 rfl _ j (upTo (encAt k) j zs) rfl ho2 w2.heap.size 1 (IntKind.u8.wrap ((IntKind.i64.wrap (IntKind.i64.wrap z + y.tmod 256)).tmod 256)) rfl ?c2 ?c3 ?c4 ?c5 ?_; (case c2 => rw [World.cell?_alloc_at _ _ _ _ rfl]; rfl); (case c3 => unfold maxLen; omega); (case c4 => omega); (case c5 => have := hB2.size; simp; omega); intro v' w' ho3 hb3))
      all_goals
        rw [show upTo (encAt k) j zs ++ [IntKind.u8.wrap ((IntKind.i64.wrap (IntKind.i64.wrap z + y.tmod 256)).tmod 256)] = upTo (encAt k) (j + 1) zs by rw [← HN.out, HE.out]; rfl] at ho3
        have hB3 : Below w.heap.size w w' := (hbw.trans (hB2.mono hbs)).alloc (by have := hB2.size; omega) (.cells #[.int .u8 (encRaw z y)] 5) |>.trans hb3
        go_wp2
        go_roundw
        case rel => exact ⟨j + 1, by omega, by go_num, ho3, hB3⟩
        case measure => simp [intOf]; omega
    · have hd : decide ((j : Int) < (n : Int)) = false := by simp; omega
      have HE := Lib.hid (show j = n by omega)
      have HA := Lib.hid (upTo_all (encAt k) j zs (by have := HL.out; omega))
      go_wp2
      go_ret
      rw [HA.out] at ho
      rw [HE.out] at ho
      obtain ⟨q, m, rfl, g1, g2, g3⟩ := ho.own (all_wf _ _ fun i z => encAt_range k i z)
      exact ⟨_, _, rfl, g3, g1, g2, hbw⟩
/-- The byte as the model's operations give it. -/
def decRaw (z y : Int) : Int := IntKind.u8.wrap (IntKind.i64.wrap (IntKind.i64.wrap z - y.tmod 256) % 256)
theorem decRaw_eq (z y : Int) (z0 : 0 ≤ z) (z1 : z ≤ 255) (y0 : 0 ≤ y) (y1 : y < 2147483647) : decRaw z y = (z - y % 256) % 256 := by
  unfold decRaw
  have h1 : IntKind.i64.wrap z = z := by rw [IntKind.wrap_i64]; omega
  have h2 : IntKind.i64.wrap (z - y % 256) = z - y % 256 := by rw [IntKind.wrap_i64]; omega
  rw [h1, Int.tmod_eq_emod_of_nonneg y0, h2, IntKind.wrap_u8]
  omega
theorem tmod256_up {a : Int} (h : 0 ≤ a) : a.tmod 256 = a % 256 := Int.tmod_eq_emod_of_nonneg h
theorem tmod256_down {a : Int} (h : a < 0) : a.tmod 256 = -((-a) % 256) := by
  have h1 : a.tmod 256 = -((-a).tmod 256) := by rw [Int.neg_tmod, Int.neg_neg]
  rw [h1, tmod256_up (by omega)]
theorem tmod256_any (a : Int) : (a.tmod 256 + 256) % 256 = a % 256 := by
  by_cases h0 : 0 ≤ a
  · rw [tmod256_up h0]; omega
  · rw [tmod256_down (by omega)]; omega

set_option maxRecDepth 100000 in
theorem mod256_spec (a : Int) (w : World) :
    Calls Try.prog 22 #[.int .i64 a, .int .i64 256] w fun e w' => e = .returned (.int .i64 (a % 256)) ∧ w = w' := by
  have hlo := Int.lt_tmod_of_pos a (show (0 : Int) < 256 by omega)
  have hhi := Int.tmod_lt_of_pos a (show (0 : Int) < 256 by omega)
  rw [← tmod256_any a]
  obtain ⟨r, hr⟩ : ∃ r, Hid (a.tmod 256 = r) := ⟨_, rfl⟩
  have hr' := hr.out
  rw [hr'] at hlo hhi ⊢
  go_enter Try.func22, Try.ntmps22
  go_wp2
  go_ret
  exact ⟨rfl, rfl⟩

set_option maxHeartbeats 4000000 in
set_option maxRecDepth 100000 in
theorem dec_spec (lo hi : Nat) (w : World) (a : Option Addr) (n c : Nat) (k : Int) (zs : List Int) (hr : Row .u8 lo hi w a n zs) (hh : hi ≤ w.heap.size) (hk : (Lit.int .i64 k).wf = true) (hn : n ≤ 549755813888) :
    Calls Try.prog 40 #[.int .i64 k, .slice a n c] w (Slice .u8 w.heap.size n (all (decAt k) zs) w) := by
  obtain ⟨i0, hi0, hz0, hz1, hz2⟩ := info_parts Byt.info
  have HL := Lib.hid hr.len
  have hs := OwnI.made .u8 5 (base := w.heap.size) w (Nat.le_refl _)
  have hb := (Below.refl w.heap.size w).alloc (Nat.le_refl _) (.cells #[] 5)
  go_enter Try.func40, Try.ntmps40
  go_wp2
  go_loopw [5, 6] (fun v i wr => ∃ j : Nat, j ≤ n ∧ i = .int .i64 j ∧ OwnI .u8 5 w.heap.size wr v j (upTo (decAt k) j zs) ∧ Below w.heap.size w wr) (fun _ i _ => n - (intOf i).toNat)
  case atStart => exact ⟨0, Nat.zero_le _, rfl, hs, hb⟩
  case round =>
    obtain ⟨j, hj, rfl, ho, hbw⟩ := hrel
    clear hs hb
    have hbs := hbw.size
    by_cases hlt : j < n
    · obtain ⟨b, off, rfl, _, hbh, hc⟩ := (hr.under hbw hh).cell hlt
      have hz := bounds_u8 (hr.wf_at hlt)
      have HN := Lib.hid (upTo_next (decAt k) j zs (by have := HL.out; omega))
      obtain ⟨z, hzz⟩ : ∃ z, Hid (zs.getD j 0 = z) := ⟨_, rfl⟩
      rw [hzz.out] at hc hz HN
      obtain ⟨z0, z1⟩ := hz
      have hbl := cell_lt hc
      have hj0 : (0 : Int) ≤ (j : Int) := by omega
      have hj1 : (j : Int) < (n : Int) := by omega
      -- the call's world
      have hcell : (wr.drew.alloc (.cells #[.int .i64 (j : Int)] 3)).cell? ⟨wr.heap.size, 0, none⟩ = some (.int .i64 (j : Int)) := by
        rw [World.cell?_alloc_at _ _ _ _ (by simp)]; rfl
      have hrow := one_row (j : Int) (wr.drew.alloc (.cells #[.int .i64 (j : Int)] 3)) wr wr.heap.size (WalkArith.wf_i64 (by omega)) hcell
      have hkh := khash_spec _ _ _ _ 1 1 k _ hrow (by simp) hk (by omega)
      have hR := khash_range k [(j : Int)]
      have hbd : Below wr.heap.size wr (wr.drew.alloc (.cells #[.int .i64 (j : Int)] 3)) :=
        (show Below wr.heap.size wr wr.drew from ⟨rfl, rfl, rfl, Nat.le_refl _, fun _ _ => rfl⟩).alloc (Nat.le_refl _) _
      obtain ⟨y, hy⟩ : ∃ y, Hid (khash k [(j : Int)] = y) := ⟨_, rfl⟩
      rw [hy.out] at hR hkh
      obtain ⟨y0, y1⟩ := hR
      have HE := Lib.hid (show decAt k j z = decRaw z y by rw [decRaw_eq z y z0 z1 y0 y1]; unfold decAt; rw [hy.out])
      go_wp2_with fail
      go_region_law (first
        | (go_simp; go_at_call 29; refine hkh.mono ?_; rintro e w2 ⟨rfl, hb2⟩; have hB2 : Below wr.heap.size wr w2 := hbd.trans (hb2.mono hbd.size); have hc2 : w2.cell? ⟨b, off + j, none⟩ = some (.int .u8 z) := (by rw [cell_of_heap (hB2.block b hbl)]; exact hc); have ho2 := (ho.below hB2).alloc (.cells #[.int .u8 (IntKind.u8.wrap (IntKind.i64.wrap (IntKind.i64.wrap z - y.tmod 256) % 256))] 5); clear hb2)
        | (go_simp; go_at_call 22; refine (mod256_spec _ _).mono ?_; rintro e w3 ⟨rfl, rfl⟩)
        | (refine step_append_one rfl _ _ 22 rfl w.heap.size 5 i0 _ 1 Try.underlying22 hi0 hz0 hz1 hz2 rfl _ j (upTo (decAt k) j zs) rfl ho2 w2.heap.size 1 (IntKind.u8.wrap (IntKind.i64.wrap (IntKind.i64.wrap z - y.tmod 256) % 256)) rfl ?c2 ?c3 ?c4 ?c5 ?_; (case c2 => rw [World.cell?_alloc_at _ _ _ _ rfl]; rfl); (case c3 => unfold maxLen; omega); (case c4 => omega); (case c5 => have := hB2.size; simp; omega); intro v' w' ho3 hb3))
      all_goals
        rw [show upTo (decAt k) j zs ++ [IntKind.u8.wrap (IntKind.i64.wrap (IntKind.i64.wrap z - y.tmod 256) % 256)] = upTo (decAt k) (j + 1) zs by rw [← HN.out, HE.out]; rfl] at ho3
        have hB3 : Below w.heap.size w w' := (hbw.trans (hB2.mono hbs)).alloc (by have := hB2.size; omega) (.cells #[.int .u8 (decRaw z y)] 5) |>.trans hb3
        go_wp2
        go_roundw
        case rel => exact ⟨j + 1, by omega, by go_num, ho3, hB3⟩
        case measure => simp [intOf]; omega
    · have hd : decide ((j : Int) < (n : Int)) = false := by simp; omega
      have HE := Lib.hid (show j = n by omega)
      have HA := Lib.hid (upTo_all (decAt k) j zs (by have := HL.out; omega))
      go_wp2
      go_ret
      rw [HA.out] at ho
      rw [HE.out] at ho
      obtain ⟨q, m, rfl, g1, g2, g3⟩ := ho.own (all_wf _ _ fun i z => decAt_range k i z)
      exact ⟨_, _, rfl, g3, g1, g2, hbw⟩
end Go.Proofs.Ytmiemfecbllhfaa.Hsh
