/-
  For every row of bytes that a test is drawn from, the law FnCipher returns true: decryption inverts encryption, encryption inverts decryption, and the length is kept.
  Conditions: the argument can be read.
-/
import Derived.Test.YtmiemfecbllhfaaDraws3
import Derived.Test.YtmiemfecbllhfaaCipherI
import Derived.Test.YtmiemfecbllhfaaSameB
namespace Go.Proofs.Ytmiemfecbllhfaa.FnCipherW
open Go Go.RowKit Go.Proofs.Ytmiemfecbllhfaa.Mem Go.Proofs.Ytmiemfecbllhfaa.Hsh
set_option linter.unusedVariables false

theorem back_dec (k : Int) (zs : List Int) (h : ∀ z ∈ zs, (Lit.int .u8 z).wf = true) : all (decAt k) (all (encAt k) zs) = zs :=
  all_back _ _ zs (fun i z h0 h1 => dec_enc k i z h0 h1) fun z hz => bounds_u8 (h z hz)
theorem back_enc (k : Int) (zs : List Int) (h : ∀ z ∈ zs, (Lit.int .u8 z).wf = true) : all (encAt k) (all (decAt k) zs) = zs :=
  all_back _ _ zs (fun i z h0 h1 => enc_dec k i z h0 h1) fun z hz => bounds_u8 (h z hz)

set_option maxHeartbeats 4000000 in
set_option maxRecDepth 100000 in
theorem walk_small (a : Option Addr) (n c : Nat) (w : World) (hb : Draw.Bytes w.heap.size w a n) (hn : n ≤ 1048576) :
    Calls Try.prog 3 #[.slice a n c] w fun e w' => e = .returned (.bool true) ∧ Below w.heap.size w w' := by
  go_enter Try.func3, Try.ntmps3
  go_wp2_with (go_at_call 13; go_in)
  go_at_call 14
  refine (Draw.draw_encrypt w.heap.size a n c _ hb (Nat.le_refl _)).mono ?_
  rintro e w1 ⟨k, q, m, c1, zs, rfl, hk0, hk1, ho1, hm, hc1, hc2, hb1⟩
  have hs1 := hb1.size
  have hk : (Lit.int .i64 k).wf = true := WalkArith.wf_i64 (by omega)
  have HD := Lib.hid (back_dec k zs ho1.wf)
  have HE := Lib.hid (back_enc k zs ho1.wf)
  go_wp2_with fail
  go_at_call 17
  refine (enc_impl _ _ _ _ _ _ k zs ho1.row (Nat.le_refl _) hk (by omega)).mono ?_
  rintro e w2 ⟨q2, c2, rfl, ho2, _, _, hb2⟩
  have hs2 := hb2.size
  have hB2 := hb1.trans (hb2.mono hs1)
  have hz2 := ho1.below hb2
  go_wp2_with fail
  go_at_call 16
  refine (dec_impl _ _ _ _ _ _ k _ ho2.row (Nat.le_refl _) hk (by omega)).mono ?_
  rintro e w3 ⟨q3, c3, rfl, ho3, _, _, hb3⟩
  rw [HD.out] at ho3
  have hs3 := hb3.size
  have hB3 := hB2.trans (hb3.mono hB2.size)
  have hz3 := hz2.below hb3
  go_wp2_with fail
  go_at_call 15
  refine (SameB.eq_same _ _ _ _ _ q3 q m _ _ _ ho3.row hz3.row (by omega)).mono ?_
  rintro e w4 ⟨rfl, m4, hw4⟩
  have hb4 : Below w3.heap.size w3 w4 := by rw [hw4]; exact below_drewN (Below.refl _ _) _
  clear hw4
  have hs4 := hb4.size
  have hB4 := hB3.trans (hb4.mono hB3.size)
  have hz4 := hz3.below hb4
  go_wp2_with fail
  go_at_call 16
  refine (dec_impl _ _ _ _ _ _ k _ hz4.row (by omega) hk (by omega)).mono ?_
  rintro e w5 ⟨q5, c5, rfl, ho5, _, _, hb5⟩
  have hs5 := hb5.size
  have hB5 := hB4.trans (hb5.mono hB4.size)
  have hz5 := hz4.below hb5
  go_wp2_with fail
  go_at_call 17
  refine (enc_impl _ _ _ _ _ _ k _ ho5.row (Nat.le_refl _) hk (by omega)).mono ?_
  rintro e w6 ⟨q6, c6, rfl, ho6, _, _, hb6⟩
  rw [HE.out] at ho6
  have hs6 := hb6.size
  have hB6 := hB5.trans (hb6.mono hB5.size)
  have hz6 := hz5.below hb6
  go_wp2_with fail
  go_at_call 15
  refine (SameB.eq_same _ _ _ _ _ q6 q m _ _ _ ho6.row hz6.row (by omega)).mono ?_
  rintro e w7 ⟨rfl, m7, hw7⟩
  have hb7 : Below w6.heap.size w6 w7 := by rw [hw7]; exact below_drewN (Below.refl _ _) _
  clear hw7
  have hs7 := hb7.size
  have hB7 := hB6.trans (hb7.mono hB6.size)
  have hz7 := hz6.below hb7
  go_wp2_with fail
  go_at_call 17
  refine (enc_impl _ _ _ _ _ _ k _ hz7.row (by omega) hk (by omega)).mono ?_
  rintro e w8 ⟨q8, c8, rfl, ho8, _, _, hb8⟩
  have hB8 := hB7.trans (hb8.mono hB7.size)
  go_wp2
  go_ret
  exact ⟨rfl, hB8⟩

set_option maxRecDepth 100000 in
theorem law_walk (a : Option Addr) (n c : Nat) (zs : List Int) (w : World) (h : Row .u8 0 w.heap.size w a n zs) :
    Calls Try.prog 3 #[.slice a n c] w fun e w' => e = .returned (.bool true) ∧ Below w.heap.size w w' := by
  by_cases k : n ≤ 1048576
  · exact walk_small a n c w (Draw.bytes_of_row h (Nat.le_refl _) (by omega)) k
  · have k' : (1048576 : Int) < n := by omega
    go_enter Try.func3, Try.ntmps3
    go_wp2
    go_ret
    exact ⟨rfl, Below.refl _ _⟩
end Go.Proofs.Ytmiemfecbllhfaa.FnCipherW
