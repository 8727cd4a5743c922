/-
  DeriveFromString, of the program and of the model.
  Conditions: the text has at most 2^39 bytes; the key is an int.
-/
import Derived.Test.YtmiemfecbllhfaaKeyed
import Derived.Lib.ConvBytes
namespace Go.Proofs.Ytmiemfecbllhfaa.Hsh
open Go Go.RowKit Go.Proofs.Ytmiemfecbllhfaa.Mem
set_option linter.unusedVariables false

/-- A text's bytes. -/
def textOf (s : ByteArray) : List Int := s.data.toList.map fun b => (b.toNat : Int)
theorem textOf_len (s : ByteArray) : (textOf s).length = s.size := by simp [textOf]
theorem textOf_wf (s : ByteArray) : ∀ z ∈ textOf s, (Lit.int .u8 z).wf = true := by
  intro z hz
  simp only [textOf, List.mem_map] at hz
  obtain ⟨b, _, rfl⟩ := hz
  have := b.toNat_lt
  exact WalkArith.wf_u8 (by omega)
theorem textOf_at (s : ByteArray) (j : Nat) (h : j < s.size) : (textOf s).getD j 0 = ((s.data.toList.getD j 0).toNat : Int) := by
  have h' : j < s.data.toList.length := by simpa using h
  unfold textOf
  rw [List.getD_eq_getElem?_getD, List.getD_eq_getElem?_getD, List.getElem?_map, List.getElem?_eq_getElem h']
  rfl

/-- What '[]byte(s)' leaves. -/
theorem converted (w : World) (s : ByteArray) : ∃ (w1 : World) (c : Nat), (∀ src, src = 9 → (convert src 22 (.string s)).run Try.prog w = .ok (.slice (some ⟨w.heap.size, 0, none⟩) s.size c) w1) ∧
    Row .u8 w.heap.size w1.heap.size w1 (some ⟨w.heap.size, 0, none⟩) s.size (textOf s) ∧ Below w.heap.size w w1 := by
  refine ⟨_, _, fun src h => by subst h; exact Lib.run_convert_string_bytes w 9 22 5 s Try.underlying9 Try.underlying22 Try.underlying5, ?_, ?_⟩
  · refine ⟨textOf_len s, textOf_wf s, fun _ => ⟨w.heap.size, 0, rfl, Nat.le_refl _, by rw [Lib.bytesWorld_size]; omega, fun j hj => ?_⟩⟩
    rw [Nat.zero_add, Lib.bytesWorld_cell w _ s j hj, textOf_at s j hj]
  · exact ⟨rfl, rfl, rfl, by rw [Lib.bytesWorld_size]; omega, fun i hi => Lib.bytesWorld_at_old w _ s i hi⟩

/-- The key of a label. -/
def derive (k : Int) (s : ByteArray) : Int := if khash k (toInts (textOf s)) = 0 then 1 else khash k (toInts (textOf s))
theorem derive_range (k : Int) (s : ByteArray) : 1 ≤ derive k s ∧ derive k s ≤ 2147483646 := by
  have := khash_range k (toInts (textOf s))
  unfold derive
  split <;> omega

set_option maxHeartbeats 1000000 in
set_option maxRecDepth 100000 in
theorem derive_impl (w : World) (k : Int) (s : ByteArray) (hk : (Lit.int .i64 k).wf = true) (hs : s.size ≤ 549755813888) :
    Calls Try.prog 25 #[.int .i64 k, .string s] w fun e w' => e = .returned (.int .i64 (derive k s)) ∧ Below w.heap.size w w' := by
  obtain ⟨w1, c, hc, hr1, hb1⟩ := converted w s
  have hc' := hc _ rfl
  clear hc
  have hs1 := hb1.size
  have hR := khash_range k (toInts (textOf s))
  obtain ⟨y, hy⟩ : ∃ y, Hid (derive k s = y) := ⟨_, rfl⟩
  obtain ⟨x, hx⟩ : ∃ x, Hid (khash k (toInts (textOf s)) = x) := ⟨_, rfl⟩
  have hyx : (x = 0 → y = 1) ∧ (x ≠ 0 → y = x) := by
    rw [← hy.out, ← hx.out]
    unfold derive
    exact ⟨fun h => if_pos h, fun h => if_neg h⟩
  have HYX := Lib.hid hyx
  rw [hx.out] at hR
  rw [hy.out]
  clear hyx
  go_enter Try.func25, Try.ntmps25
  go_wp2_with fail
  go_at_call 33
  refine (ints_impl _ _ w1 _ s.size c (textOf s) hr1 (Nat.le_refl _) hs).mono ?_
  rintro e w2 ⟨q, m, rfl, ho2, _, _, hb2⟩
  have hs2 := hb2.size
  have hkh := khash_impl _ _ w2 q (s.size + 1) m k _ ho2.row (Nat.le_refl _) hk (by omega)
  rw [hx.out] at hkh
  go_wp2_with fail
  go_at_call 19
  refine hkh.mono ?_
  rintro e w3 ⟨rfl, hb3⟩
  have hB : Below w.heap.size w w3 := (hb1.trans (hb2.mono hs1)).trans (hb3.mono (by omega))
  by_cases h0 : x = 0
  · go_wp2
    go_ret
    obtain rfl := HYX.out.1 h0
    exact ⟨rfl, hB⟩
  · go_wp2
    go_ret
    obtain rfl := HYX.out.2 h0
    exact ⟨rfl, hB⟩

set_option maxHeartbeats 1000000 in
set_option maxRecDepth 100000 in
theorem derive_spec (w : World) (k : Int) (s : ByteArray) (hk : (Lit.int .i64 k).wf = true) (hs : s.size ≤ 549755813888) :
    Calls Try.prog 41 #[.int .i64 k, .string s] w fun e w' => e = .returned (.int .i64 (derive k s)) ∧ Below w.heap.size w w' := by
  obtain ⟨w1, c, hc, hr1, hb1⟩ := converted w s
  have hc' := hc _ rfl
  clear hc
  have hs1 := hb1.size
  have hR := khash_range k (toInts (textOf s))
  obtain ⟨y, hy⟩ : ∃ y, Hid (derive k s = y) := ⟨_, rfl⟩
  obtain ⟨x, hx⟩ : ∃ x, Hid (khash k (toInts (textOf s)) = x) := ⟨_, rfl⟩
  have hyx : (x = 0 → y = 1) ∧ (x ≠ 0 → y = x) := by
    rw [← hy.out, ← hx.out]
    unfold derive
    exact ⟨fun h => if_pos h, fun h => if_neg h⟩
  have HYX := Lib.hid hyx
  rw [hx.out] at hR
  rw [hy.out]
  clear hyx
  go_enter Try.func41, Try.ntmps41
  go_wp2_with fail
  go_at_call 31
  refine (ints_spec _ _ w1 _ s.size c (textOf s) hr1 (Nat.le_refl _) hs).mono ?_
  rintro e w2 ⟨q, m, rfl, ho2, _, _, hb2⟩
  have hs2 := hb2.size
  have hkh := khash_spec _ _ w2 q (s.size + 1) m k _ ho2.row (Nat.le_refl _) hk (by omega)
  rw [hx.out] at hkh
  go_wp2_with fail
  go_at_call 29
  refine hkh.mono ?_
  rintro e w3 ⟨rfl, hb3⟩
  have hB : Below w.heap.size w w3 := (hb1.trans (hb2.mono hs1)).trans (hb3.mono (by omega))
  by_cases h0 : 1 < x
  · obtain rfl := HYX.out.2 (by omega)
    go_wp2
    go_ret
    exact ⟨rfl, hB⟩
  · have h1 : y = 1 := by
      rcases (show x = 0 ∨ x = 1 by omega) with h | h
      · exact HYX.out.1 h
      · rw [HYX.out.2 (by omega), h]
    subst h1
    have h0' : x ≤ 1 := by omega
    have h0'' : decide (1 < x) = false := by simp; omega
    go_wp2
    go_ret
    exact ⟨rfl, hB⟩
end Go.Proofs.Ytmiemfecbllhfaa.Hsh
