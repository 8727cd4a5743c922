/-
  KeyedHash, IsValidKey and BytesToInts, of the program and of the model.
  Conditions: the rows lie in memory; the key is an int.
-/
import Derived.Test.YtmiemfecbllhfaaConcat
import Derived.Test.YtmiemfecbllhfaaHash
import Derived.Test.YtmiemfecbllhfaaBytes
namespace Go.Proofs.Ytmiemfecbllhfaa.Hsh
open Go Go.RowKit Go.Proofs.Ytmiemfecbllhfaa.Mem
set_option linter.unusedVariables false

theorem one_row (k : Int) (w w' : World) (g : Nat) (hk : (Lit.int .i64 k).wf = true) (h : w.cell? ⟨g, 0, none⟩ = some (.int .i64 k)) : Row .i64 g (g + 1) w (some ⟨g, 0, none⟩) 1 [k] := by
  refine ⟨rfl, by intro z hz; simp at hz; rw [hz]; exact hk, fun _ => ⟨g, 0, rfl, Nat.le_refl _, by omega, fun j hj => ?_⟩⟩
  obtain rfl : j = 0 := by omega
  exact h

set_option maxHeartbeats 2000000 in
set_option maxRecDepth 100000 in
theorem khash_impl (lo hi : Nat) (w : World) (a : Option Addr) (n c : Nat) (k : Int) (zs : List Int) (hr : Row .i64 lo hi w a n zs) (hh : hi ≤ w.heap.size) (hk : (Lit.int .i64 k).wf = true) (hn : n ≤ 1099511627776) :
    Calls Try.prog 19 #[.int .i64 k, .slice a n c] w fun e w' => e = .returned (.int .i64 (khash k zs)) ∧ Below w.heap.size w w' := by
  have hb1 := (Below.refl w.heap.size w).alloc (Nat.le_refl _) (.cells #[.int .i64 k] 3)
  have hb2 := hb1.alloc hb1.size (.cells #[.int .i64 k] 3)
  have hb3 := hb2.alloc hb2.size (.cells #[.slice (some ⟨w.heap.size, 0, none⟩) 1 1, .slice a n c, .slice (some ⟨w.heap.size + 1, 0, none⟩) 1 1] 28)
  obtain ⟨w3, hw3⟩ : ∃ w3, Hid (((w.alloc (.cells #[.int .i64 k] 3)).alloc (.cells #[.int .i64 k] 3)).alloc (.cells #[.slice (some ⟨w.heap.size, 0, none⟩) 1 1, .slice a n c, .slice (some ⟨w.heap.size + 1, 0, none⟩) 1 1] 28) = w3) := ⟨_, rfl⟩
  have hsz : w3.heap.size = w.heap.size + 3 := by rw [← hw3.out]; simp
  have k0 : w3.cell? ⟨w.heap.size, 0, none⟩ = some (.int .i64 k) := by
    rw [← hw3.out, World.cell?_alloc_past _ _ _ (by simp <;> omega), World.cell?_alloc_past _ _ _ (by simp <;> omega), World.cell?_alloc_at _ _ _ _ rfl]; rfl
  have k1 : w3.cell? ⟨w.heap.size + 1, 0, none⟩ = some (.int .i64 k) := by
    rw [← hw3.out, World.cell?_alloc_past _ _ _ (by simp <;> omega), World.cell?_alloc_at _ _ _ _ (by simp)]; rfl
  have s0 : w3.cell? ⟨w.heap.size + 2, 0, none⟩ = some (.slice (some ⟨w.heap.size, 0, none⟩) 1 1) := by
    rw [← hw3.out, World.cell?_alloc_at _ _ _ _ (by simp)]; rfl
  have s1 : w3.cell? ⟨w.heap.size + 2, 1, none⟩ = some (.slice a n c) := by
    rw [← hw3.out, World.cell?_alloc_at _ _ _ _ (by simp)]; rfl
  have s2 : w3.cell? ⟨w.heap.size + 2, 2, none⟩ = some (.slice (some ⟨w.heap.size + 1, 0, none⟩) 1 1) := by
    rw [← hw3.out, World.cell?_alloc_at _ _ _ _ (by simp)]; rfl
  rw [hw3.out] at hb3
  have hcat := Cat.concat3 _ _ _ _ _ _ w3 (w.heap.size + 2) _ _ _ 1 n 1 1 c 1 [k] zs [k] s0 s1 s2 (one_row k w3 w3 _ hk k0) (hr.under hb3 hh) (one_row k w3 w3 _ hk k1) (by omega) (by omega) (by omega) (by omega) hn (by omega) (by omega)
  rw [← hw3.out] at hcat
  clear hb1 hb2 k0 k1 s0 s1 s2
  go_enter Try.func19, Try.ntmps19
  go_wp2_with fail
  go_at_call 51
  refine hcat.mono ?_
  rintro e w4 ⟨v, rfl, ho, hb4⟩
  rw [hw3.out] at hb4
  have hs4 := hb4.size
  have hwf : ∀ z ∈ [k] ++ zs ++ [k], (Lit.int .i64 z).wf = true := by
    intro z hz
    simp at hz
    rcases hz with rfl | hz | rfl
    · exact hk
    · exact hr.wf z hz
    · exact hk
  obtain ⟨q, m, rfl, g1, g2, g3⟩ := ho.own hwf
  have hh4 := hash_impl _ _ w4 q _ m _ g3.row (by omega)
  go_wp2_with fail
  go_at_call 20
  refine hh4.mono ?_
  rintro e w5 ⟨rfl, rfl⟩
  go_wp2
  go_ret
  exact ⟨rfl, hb3.trans (hb4.mono (by omega))⟩

set_option maxHeartbeats 2000000 in
set_option maxRecDepth 100000 in
theorem khash_spec (lo hi : Nat) (w : World) (a : Option Addr) (n c : Nat) (k : Int) (zs : List Int) (hr : Row .i64 lo hi w a n zs) (hh : hi ≤ w.heap.size) (hk : (Lit.int .i64 k).wf = true) (hn : n ≤ 1099511627776) :
    Calls Try.prog 29 #[.int .i64 k, .slice a n c] w fun e w' => e = .returned (.int .i64 (khash k zs)) ∧ Below w.heap.size w w' := by
  obtain ⟨i0, hi0, hz0, hz1, hz2⟩ := info_parts Nts.info
  have hs := OwnI.lit (base := w.heap.size) .i64 3 w [k] (Nat.le_refl _) (by simp [maxLen])
  have hb1 := (Below.refl w.heap.size w).alloc (Nat.le_refl _) (.cells #[.int .i64 k] 3)
  have hr1 := hr.under hb1 hh
  go_enter Try.func29, Try.ntmps29
  go_wp2_with (first | (at_builtin; refine wpList_append_row rfl _ _ 28 rfl w.heap.size 3 i0 _ 8 Try.underlying28 hi0 hz0 hz1 hz2 rfl _ 1 [k] rfl hs lo hi a n c zs rfl hr1 ?c1 ?c2 ?c3 ?_; (case c1 => unfold maxLen; omega); (case c2 => omega); (case c3 => exact hb1.size); intro v2 w2 ho2 hb2; have hw2 := ho2.alloc (.cells #[.int .i64 k] 3); have hB2 := hb1.trans hb2; have hB3 := hB2.alloc hB2.size (.cells #[.int .i64 k] 3)) | (at_builtin; refine wpList_append_one rfl _ _ 28 rfl w.heap.size 3 i0 _ 8 Try.underlying28 hi0 hz0 hz1 hz2 rfl _ (1 + n) ([k] ++ zs) rfl hw2 w2.heap.size 1 k rfl ?c2 ?c3 ?c4 ?c5 ?_; (case c2 => rw [World.cell?_alloc_at _ _ _ _ rfl]; rfl); (case c3 => unfold maxLen; omega); (case c4 => omega); (case c5 => exact hB3.size); intro v4 w4 ho4 hb4))
  have hwf : ∀ z ∈ [k] ++ zs ++ [k], (Lit.int .i64 z).wf = true := by
    intro z hz
    simp at hz
    rcases hz with rfl | hz | rfl
    · exact hk
    · exact hr.wf z hz
    · exact hk
  obtain ⟨q, m, rfl, g1, g2, g3⟩ := ho4.own hwf
  have hh4 := hash_spec _ _ w4 q _ m _ g3.row (by omega)
  go_at_call 26
  refine hh4.mono ?_
  rintro e w5 ⟨rfl, rfl⟩
  go_wp2
  go_ret
  exact ⟨rfl, hB3.trans hb4⟩

set_option maxRecDepth 100000 in
theorem valid_impl (k : Int) (w : World) :
    Calls Try.prog 24 #[.int .i64 k] w fun e w' => e = .returned (.bool (decide (1 ≤ k ∧ k ≤ 2147483646))) ∧ w = w' := by
  by_cases h : 1 ≤ k ∧ k ≤ 2147483646
  · rw [decide_eq_true h]
    go_enter Try.func24, Try.ntmps24
    go_wp2_with (go_at_call 55; refine (Range.in_yes _ _ _ _ h.1 h.2).mono ?_; rintro e w' ⟨rfl, rfl⟩)
    go_ret
    exact ⟨rfl, rfl⟩
  · rw [decide_eq_false h]
    have h' : k < 1 ∨ 2147483646 < k := by omega
    go_enter Try.func24, Try.ntmps24
    go_wp2_with (go_at_call 55; refine (Range.in_no _ _ _ _ h').mono ?_; rintro e w' ⟨rfl, rfl⟩)
    go_ret
    exact ⟨rfl, rfl⟩
set_option maxRecDepth 100000 in
theorem valid_spec (k : Int) (w : World) :
    Calls Try.prog 30 #[.int .i64 k] w fun e w' => e = .returned (.bool (decide (1 ≤ k ∧ k ≤ 2147483646))) ∧ w = w' := by
  by_cases h : 1 ≤ k ∧ k ≤ 2147483646
  · rw [decide_eq_true h]
    go_enter Try.func30, Try.ntmps30
    go_wp2_with (go_at_call 53; refine (Range.l1_yes _ _ _ _ h.1 h.2).mono ?_; rintro e w' ⟨rfl, rfl⟩)
    go_ret
    exact ⟨rfl, rfl⟩
  · rw [decide_eq_false h]
    have h' : k < 1 ∨ 2147483646 < k := by omega
    go_enter Try.func30, Try.ntmps30
    go_wp2_with (go_at_call 53; refine (Range.l1_no _ _ _ _ h').mono ?_; rintro e w' ⟨rfl, rfl⟩)
    go_ret
    exact ⟨rfl, rfl⟩

/-! BytesToInts. -/
def toInts (zs : List Int) : List Int := (zs.length : Int) :: zs
theorem toInts_len (zs : List Int) : (toInts zs).length = zs.length + 1 := rfl
theorem toInts_wf {zs : List Int} (h : ∀ z ∈ zs, (Lit.int .u8 z).wf = true) (hn : zs.length ≤ 9223372036854775807) : ∀ z ∈ toInts zs, (Lit.int .i64 z).wf = true := by
  intro z hz
  rcases List.mem_cons.1 hz with rfl | hz
  · exact WalkArith.wf_i64 (by omega)
  · have := bounds_u8 (h z hz); exact WalkArith.wf_i64 (by omega)
theorem take_next (x : Int) (zs : List Int) (j : Nat) (h : j < zs.length) : (x :: zs.take j) ++ [zs.getD j 0] = x :: zs.take (j + 1) := by
  rw [List.take_succ_eq_append_getElem h, List.getD_eq_getElem?_getD, List.getElem?_eq_getElem h]; rfl

set_option maxHeartbeats 1000000 in
set_option maxRecDepth 100000 in
theorem ints_impl (lo hi : Nat) (w : World) (a : Option Addr) (n c : Nat) (zs : List Int) (hr : Row .u8 lo hi w a n zs) (hh : hi ≤ w.heap.size) (hn : n ≤ 549755813888) :
    Calls Try.prog 33 #[.slice a n c] w (Slice .i64 w.heap.size (n + 1) (toInts zs) w) := by
  obtain ⟨i0, hi0, hz0, hz1, hz2⟩ := info_parts Nts.info
  have HL := Lib.hid hr.len
  have hs := OwnI.lit (base := w.heap.size) .i64 3 w [(n : Int)] (Nat.le_refl _) (by simp [maxLen])
  have hb := (Below.refl w.heap.size w).alloc (Nat.le_refl _) (.cells #[.int .i64 n] 3)
  go_enter Try.func33, Try.ntmps33
  go_wp2
  go_loopw [3, 11] (fun v i wr => ∃ j : Nat, j ≤ n ∧ i = .int .i64 j ∧ OwnI .i64 3 w.heap.size wr v (1 + j) ((n : Int) :: zs.take j) ∧ Below w.heap.size w wr) (fun _ i _ => n - (intOf i).toNat)
  case atStart => exact ⟨0, Nat.zero_le _, rfl, hs, hb⟩
  case round =>
    obtain ⟨j, hj, rfl, ho, hbw⟩ := hrel
    clear hs hb
    have hbs := hbw.size
    by_cases hlt : j < n
    · obtain ⟨b, off, rfl, _, _, hc⟩ := (hr.under hbw hh).cell hlt
      have hz := bounds_u8 (hr.wf_at hlt)
      have HN := Lib.hid (take_next n zs j (by have := HL.out; omega))
      obtain ⟨z, hzz⟩ : ∃ z, Hid (zs.getD j 0 = z) := ⟨_, rfl⟩
      rw [hzz.out] at hc hz HN
      obtain ⟨z0, z1⟩ := hz
      have hw1 := ho.alloc (.cells #[.int .i64 z] 3)
      go_wp2_with (at_builtin; refine wpList_append_one rfl _ _ 28 rfl w.heap.size 3 i0 _ 8 Try.underlying28 hi0 hz0 hz1 hz2 rfl _ (1 + j) ((n : Int) :: zs.take j) rfl hw1 wr.heap.size 1 z rfl ?c2 ?c3 ?c4 ?c5 ?_; (case c2 => rw [World.cell?_alloc_at _ _ _ _ rfl]; rfl); (case c3 => unfold maxLen; omega); (case c4 => omega); (case c5 => simp; omega); intro v' w' ho2 hb')
      rw [HN.out] at ho2
      go_roundw
      case rel => exact ⟨j + 1, by omega, by go_num, ho2, (hbw.alloc hbs _).trans hb'⟩
      case measure => simp [intOf]; omega
    · have hd : decide ((j : Int) < (n : Int)) = false := by simp; omega
      have HE := Lib.hid (show j = n by omega)
      have HT := Lib.hid (show (n : Int) :: zs.take n = toInts zs by unfold toInts; rw [HL.out, ← HL.out, List.take_length])
      go_wp2
      go_ret
      rw [HE.out, HT.out, Nat.add_comm] at ho
      obtain ⟨q, k, rfl, g1, g2, g3⟩ := ho.own (toInts_wf hr.wf (by have := HL.out; omega))
      exact ⟨_, _, rfl, g3, g1, g2, hbw⟩

set_option maxHeartbeats 1000000 in
set_option maxRecDepth 100000 in
theorem ints_spec (lo hi : Nat) (w : World) (a : Option Addr) (n c : Nat) (zs : List Int) (hr : Row .u8 lo hi w a n zs) (hh : hi ≤ w.heap.size) (hn : n ≤ 549755813888) :
    Calls Try.prog 31 #[.slice a n c] w (Slice .i64 w.heap.size (n + 1) (toInts zs) w) := by
  obtain ⟨i0, hi0, hz0, hz1, hz2⟩ := info_parts Nts.info
  have HL := Lib.hid hr.len
  have hs := OwnI.lit (base := w.heap.size) .i64 3 w [(n : Int)] (Nat.le_refl _) (by simp [maxLen])
  have hb := (Below.refl w.heap.size w).alloc (Nat.le_refl _) (.cells #[.int .i64 n] 3)
  go_enter Try.func31, Try.ntmps31
  go_wp2
  go_loopw [3, 4] (fun v i wr => ∃ j : Nat, j ≤ n ∧ i = .int .i64 j ∧ OwnI .i64 3 w.heap.size wr v (1 + j) ((n : Int) :: zs.take j) ∧ Below w.heap.size w wr) (fun _ i _ => n - (intOf i).toNat)
  case atStart => exact ⟨0, Nat.zero_le _, rfl, hs, hb⟩
  case round =>
    obtain ⟨j, hj, rfl, ho, hbw⟩ := hrel
    clear hs hb
    have hbs := hbw.size
    by_cases hlt : j < n
    · obtain ⟨b, off, rfl, _, _, hc⟩ := (hr.under hbw hh).cell hlt
      have hz := bounds_u8 (hr.wf_at hlt)
      have HN := Lib.hid (take_next n zs j (by have := HL.out; omega))
      obtain ⟨z, hzz⟩ : ∃ z, Hid (zs.getD j 0 = z) := ⟨_, rfl⟩
      rw [hzz.out] at hc hz HN
      obtain ⟨z0, z1⟩ := hz
      have hw1 := ho.alloc (.cells #[.int .i64 z] 3)
      go_wp2_with (at_builtin; refine wpList_append_one rfl _ _ 28 rfl w.heap.size 3 i0 _ 8 Try.underlying28 hi0 hz0 hz1 hz2 rfl _ (1 + j) ((n : Int) :: zs.take j) rfl hw1 wr.heap.size 1 z rfl ?c2 ?c3 ?c4 ?c5 ?_; (case c2 => rw [World.cell?_alloc_at _ _ _ _ rfl]; rfl); (case c3 => unfold maxLen; omega); (case c4 => omega); (case c5 => simp; omega); intro v' w' ho2 hb')
      rw [HN.out] at ho2
      go_roundw
      case rel => exact ⟨j + 1, by omega, by go_num, ho2, (hbw.alloc hbs _).trans hb'⟩
      case measure => simp [intOf]; omega
    · have hd : decide ((j : Int) < (n : Int)) = false := by simp; omega
      have HE := Lib.hid (show j = n by omega)
      have HT := Lib.hid (show (n : Int) :: zs.take n = toInts zs by unfold toInts; rw [HL.out, ← HL.out, List.take_length])
      go_wp2
      go_ret
      rw [HE.out, HT.out, Nat.add_comm] at ho
      obtain ⟨q, k, rfl, g1, g2, g3⟩ := ho.own (toInts_wf hr.wf (by have := HL.out; omega))
      exact ⟨_, _, rfl, g3, g1, g2, hbw⟩
end Go.Proofs.Ytmiemfecbllhfaa.Hsh
