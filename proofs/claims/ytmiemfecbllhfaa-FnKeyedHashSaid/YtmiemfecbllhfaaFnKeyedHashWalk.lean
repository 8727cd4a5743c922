/-
  For every row of bytes that a test is drawn from, the law FnKeyedHash returns true: a keyed hash is the hash of the key, the values and the key; one value that changes modulo the modulus changes it; derived keys are valid.
  Conditions: the argument can be read.
-/
import Derived.Test.YtmiemfecbllhfaaDraws3
import Derived.Test.YtmiemfecbllhfaaDerive
import Derived.Test.YtmiemfecbllhfaaStep
namespace Go.Proofs.Ytmiemfecbllhfaa.FnKeyedHashW
open Go Go.RowKit Go.Proofs.Ytmiemfecbllhfaa.Mem Go.Proofs.Ytmiemfecbllhfaa.Hsh
set_option linter.unusedVariables false

theorem bytes_under {B C : Nat} {w w' : World} {a : Option Addr} {n : Nat} (h : Draw.Bytes B w a n) (hb : Below C w w') (hB : B ≤ C) : Draw.Bytes B w' a n :=
  ⟨h.1, fun j hj => by
    obtain ⟨b, off, x, ha, hbB, hx, hc⟩ := h.2 j hj
    exact ⟨b, off, x, ha, hbB, hx, by rw [Mem.cell_of_heap (hb.block b (by omega))]; exact hc⟩⟩
/-- The value that the law stores. -/
def other (z t : Int) : Int := (z + 1 + t) % 2147483647
theorem other_new (z : Int) (t : Nat) (ht : t < 256) : other z t % 2147483647 ≠ z % 2147483647 := by
  unfold other
  omega
theorem other_wf (z t : Int) : (Lit.int .i64 (other z t)).wf = true := WalkArith.wf_i64 (by unfold other; omega)
theorem index_of (t m : Nat) (hm : 0 < m) : ∃ i : Nat, i < m ∧ (t : Int).tmod (m : Int) = (i : Int) ∧ (t : Int) % (m : Int) = (i : Int) := by
  have h := Nat.mod_lt t hm
  refine ⟨t % m, h, ?_, by simp⟩
  rw [Int.tmod_eq_emod_of_nonneg (by omega)]; simp

/-- The law's last part: a key that is derived is valid. -/
theorem derived_valid (k : Int) (s : ByteArray) (w : World) : Calls Try.prog 24 #[.int .i64 (derive k s)] w fun e w' => e = .returned (.bool true) ∧ w = w' := by
  have h := valid_impl (derive k s) w
  rw [decide_eq_true (derive_range k s)] at h
  exact h

set_option maxHeartbeats 8000000 in
set_option maxRecDepth 100000 in
theorem walk_small (a : Option Addr) (n c : Nat) (w : World) (hb : Draw.Bytes w.heap.size w a n) (hn : n ≤ 1048576) :
    Calls Try.prog 4 #[.slice a n c] w fun e w' => e = .returned (.bool true) ∧ Below w.heap.size w w' := by
  obtain ⟨i0, hi0, hz0, hz1, hz2⟩ := info_parts Nts.info
  go_enter Try.func4, Try.ntmps4
  go_wp2_with (go_at_call 13; go_in)
  go_at_call 18
  refine (Draw.draw_keyed w.heap.size a n c _ hb (Nat.le_refl _)).mono ?_
  rintro e w1 ⟨k, q, m, c1, zs, rfl, hk0, hk1, ho1, hwd, hm, hc1, hc2, hb1⟩
  have hs1 := hb1.size
  have hk : (Lit.int .i64 k).wf = true := WalkArith.wf_i64 (by omega)
  have HW := Lib.hid hwd
  have HL := Lib.hid ho1.len
  clear hwd
  obtain ⟨y, hy⟩ : ∃ y, Hid (khash k zs = y) := ⟨_, rfl⟩
  have hyr : 0 ≤ y ∧ y < 2147483647 := by rw [← hy.out]; exact khash_range k zs
  obtain ⟨y0, y1⟩ := hyr
  go_wp2_with fail
  go_at_call 19
  refine (khash_impl _ _ _ _ _ _ k zs ho1.row (Nat.le_refl _) hk (by omega)).mono ?_
  rintro e w2 ⟨rfl, hb2⟩
  rw [hy.out]
  have hs2 := hb2.size
  have hB2 := hb1.trans (hb2.mono hs1)
  have hl2 := ho1.below hb2
  -- append(append([]int{k}, l...), k)
  have hown := OwnI.lit (base := w2.heap.size) .i64 3 w2 [k] (Nat.le_refl _) (by simp [maxLen])
  have hb3 := (Below.refl w2.heap.size w2).alloc (Nat.le_refl _) (.cells #[.int .i64 k] 3)
  have hr3 := hl2.row.under hb3 (by omega)
  have d0 : decide (y < 0) = false := by simp; omega
  have d1 : decide (2147483647 ≤ y) = false := by simp; omega
  go_wp2_with (first | (at_builtin; refine wpList_append_row_w ?hw _ _ 28 rfl w2.heap.size 3 i0 _ 8 Try.underlying28 hi0 hz0 hz1 hz2 rfl _ 1 [k] rfl hown w.heap.size w1.heap.size q m c1 zs rfl hr3 ?c1 ?c2 ?c3 ?_; (case hw => simp [Region.wanted, yielded]); (case c1 => unfold maxLen; omega); (case c2 => omega); (case c3 => exact hb3.size); intro v4 w4 ho4 hb4; have hv4 := ho4.alloc (.cells #[.int .i64 k] 3); have hb34 := hb3.trans hb4; have hb5 := hb34.alloc hb34.size (.cells #[.int .i64 k] 3)) | (at_builtin; refine wpList_append_one_w ?hw _ _ 28 rfl w2.heap.size 3 i0 _ 8 Try.underlying28 hi0 hz0 hz1 hz2 rfl _ (1 + m) ([k] ++ zs) rfl hv4 w4.heap.size 1 k rfl ?c2 ?c3 ?c4 ?c5 ?_; (case hw => simp [Region.wanted, yielded]); (case c2 => rw [World.cell?_alloc_at _ _ _ _ rfl]; rfl); (case c3 => unfold maxLen; omega); (case c4 => omega); (case c5 => exact hb5.size); intro v6 w6 ho6 hb6))
  have hwf : ∀ z ∈ [k] ++ zs ++ [k], (Lit.int .i64 z).wf = true := by
    intro z hz
    simp at hz
    rcases hz with rfl | hz | rfl
    · exact hk
    · exact ho1.wf z hz
    · exact hk
  obtain ⟨q6, c6, rfl, g1, g2, g3⟩ := ho6.own hwf
  have hh6 := hash_impl _ _ w6 q6 _ c6 _ g3.row (by omega)
  have hyy : Hid (Hsh.hash ([k] ++ zs ++ [k]) = y) := hy
  rw [hyy.out] at hh6
  have hb26 := hb5.trans hb6
  have hB6 := hB2.trans (hb26.mono hB2.size)
  have hl6 := hl2.below hb26
  have hs6 := hb26.size
  clear hb4 hb34 hb5 hb6 ho6 hv4 ho4 hr3 hb3 hown hwf g3
  go_at_call 20
  refine hh6.mono ?_
  rintro e w7 ⟨rfl, rfl⟩
  by_cases hm0 : m = 0
  · subst hm0
    go_wp2_with fail
    go_at_call 23
    refine (Draw.draw_derive w.heap.size a n c _ (bytes_under hb hB6 (Nat.le_refl _)) (by have := hB6.size; omega)).mono ?_
    rintro e w20 ⟨k2, s2, rfl, hk20, hk21, hs20, hb20⟩
    have hB20 := hB6.trans (hb20.mono hB6.size)
    go_wp2_with fail
    go_at_call 25
    refine (derive_impl _ k2 s2 (WalkArith.wf_i64 (by omega)) (by omega)).mono ?_
    rintro e w21 ⟨rfl, hb21⟩
    have hB21 := hB20.trans (hb21.mono hB20.size)
    go_wp2_with (go_at_call 24; refine (derived_valid k2 s2 _).mono ?_; rintro e w' ⟨rfl, rfl⟩)
    go_ret
    exact ⟨rfl, hB21⟩
  · have hmp : 0 < m := by omega
    have hmi : (0 : Int) < (m : Int) := by omega
    have hown := OwnI.made .i64 3 (base := w6.heap.size) w6 (Nat.le_refl _)
    have hb8 := (Below.refl w6.heap.size w6).alloc (Nat.le_refl _) (.cells #[] 3)
    have hr8 := hl6.row.under hb8 (by omega)
    go_wp2_with (at_builtin; refine wpList_append_row rfl _ _ 28 rfl w6.heap.size 3 i0 _ 8 Try.underlying28 hi0 hz0 hz1 hz2 rfl _ 0 [] rfl hown w.heap.size w1.heap.size q m c1 zs rfl hr8 ?c1 ?c2 ?c3 ?_; (case c1 => unfold maxLen; omega); (case c2 => omega); (case c3 => exact hb8.size); intro v9 w9 ho9 hb9)
    rw [Nat.zero_add, List.nil_append] at ho9
    have hb69 := hb8.trans hb9
    have hB9 := hB6.trans (hb69.mono hB6.size)
    have hs9 := hb69.size
    have hbt := bytes_under hb hB9 (Nat.le_refl _)
    obtain ⟨q9, c9, rfl, f1, f2, f3⟩ := ho9.own HW.out.wf
    clear hb8 hb9 hown hr8 ho9
    go_wp2_with fail
    go_at_call 21
    refine (Draw.at_any w.heap.size a n c 0 _ hbt (by omega) hn).mono ?_
    rintro e w' ⟨⟨t0, ht0, rfl⟩, rfl⟩
    obtain ⟨i, hi, hi1, hi2⟩ := index_of t0 m hmp
    have hi3 : (i : Int) < (m : Int) := by omega
    have hi4 : (0 : Int) ≤ (i : Int) := by omega
    obtain ⟨g, off, rfl, hg0, hg1, hall⟩ := f3.here hmp
    obtain ⟨hcI, hfI⟩ := hall i hi
    clear hall
    have hzr : -1 ≤ zs.getD i 0 ∧ zs.getD i 0 ≤ 2147483648 := by
      have hl := HL.out
      rw [List.getD_eq_getElem?_getD, List.getElem?_eq_getElem (by omega)]
      exact HW.out _ (List.getElem_mem _)
    obtain ⟨z, hz⟩ : ∃ z, Hid (zs.getD i 0 = z) := ⟨_, rfl⟩
    rw [hz.out] at hcI hzr
    obtain ⟨z0, z1⟩ := hzr
    have hat : Calls Try.prog 21 #[.slice a n c, .int .i64 1] w9.drew fun e w' => Draw.IsNat 256 e ∧ w9.drew = w' := Draw.at_any w.heap.size a n c 1 w9.drew hbt (by omega) hn
    go_wp2_with fail
    go_region_law (first
      | (go_simp; go_at_call 21; refine hat.mono ?_; rintro e w10 ⟨⟨t1, ht1, rfl⟩, rfl⟩)
      | (go_simp; go_at_call 22; refine (mod_spec _ _).mono ?_; rintro e w11 ⟨rfl, rfl⟩))
    all_goals
      have hset := f3.set i (other z t1) hi (other_wf z t1)
      have hnew : Hid (khash k (zs.set i (other z t1)) ≠ y) := by
        rw [← hy.out]
        exact khash_set k _ zs i (by have := HL.out; omega) (by rw [hz.out]; exact other_new z t1 ht1)
      obtain ⟨y2, hy2⟩ : ∃ y2, Hid (khash k (zs.set i (other z t1)) = y2) := ⟨_, rfl⟩
      have hne := hnew.out
      rw [hy2.out] at hne
      have hB12 : Below w.heap.size w (w9.setCell ⟨g, off + i, none⟩ (.int .i64 (other z t1))).drew := (hB9.setCell (by simp; omega) _).drew
      have hsz12 : (w9.setCell ⟨g, off + i, none⟩ (.int .i64 (other z t1))).drew.heap.size = w9.heap.size := by simp
      have hset' : Own .i64 w6.heap.size w9.heap.size (w9.setCell ⟨g, off + i, none⟩ (.int .i64 (other z t1))).drew (some ⟨g, off, none⟩) m (zs.set i (other z t1)) := hset.keep fun _ _ _ _ => rfl
      have hkh := khash_impl _ _ _ _ m c9 k _ hset'.row (by omega) hk (by omega)
      rw [hy2.out] at hkh
      obtain ⟨w12, hw12⟩ : ∃ w12, Hid ((w9.setCell ⟨g, off + i, none⟩ (.int .i64 (other z t1))).drew = w12) := ⟨_, rfl⟩
      have hkh' : Calls Try.prog 19 #[.int .i64 k, .slice (some ⟨g, off, none⟩) m c9] (w9.setCell ⟨g, off + i, none⟩ (.int .i64 ((z + 1 + (t1 : Int)) % 2147483647))).drew fun e w' => e = .returned (.int .i64 y2) ∧ Below w12.heap.size w12 w' := by rw [← hw12.out]; exact hkh
      rw [hw12.out] at hB12
      clear hkh hset hset' hsz12
      go_wp2_with fail
      go_at_call 19
      refine hkh'.mono ?_
      rintro e w13 ⟨rfl, hb13⟩
      have hB13 := hB12.trans (hb13.mono hB12.size)
      go_wp2_with fail
      go_at_call 23
      refine (Draw.draw_derive w.heap.size a n c _ (bytes_under hb hB13 (Nat.le_refl _)) (by have := hB13.size; omega)).mono ?_
      rintro e w20 ⟨k2, s2, rfl, hk20, hk21, hs20, hb20⟩
      have hB20 := hB13.trans (hb20.mono hB13.size)
      go_wp2_with fail
      go_at_call 25
      refine (derive_impl _ k2 s2 (WalkArith.wf_i64 (by omega)) (by omega)).mono ?_
      rintro e w21 ⟨rfl, hb21⟩
      have hB21 := hB20.trans (hb21.mono hB20.size)
      go_wp2_with (go_at_call 24; refine (derived_valid k2 s2 _).mono ?_; rintro e w' ⟨rfl, rfl⟩)
      go_ret
      exact ⟨rfl, hB21⟩

set_option maxRecDepth 100000 in
theorem law_walk (a : Option Addr) (n c : Nat) (zs : List Int) (w : World) (h : Row .u8 0 w.heap.size w a n zs) :
    Calls Try.prog 4 #[.slice a n c] w fun e w' => e = .returned (.bool true) ∧ Below w.heap.size w w' := by
  by_cases k : n ≤ 1048576
  · exact walk_small a n c w (Draw.bytes_of_row h (Nat.le_refl _) (by omega)) k
  · have k' : (1048576 : Int) < n := by omega
    go_enter Try.func4, Try.ntmps4
    go_wp2
    go_ret
    exact ⟨rfl, Below.refl _ _⟩
end Go.Proofs.Ytmiemfecbllhfaa.FnKeyedHashW
