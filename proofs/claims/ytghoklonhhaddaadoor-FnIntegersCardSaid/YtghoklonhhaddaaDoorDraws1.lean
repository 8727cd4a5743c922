/-
  What the draws of the integers' law hand back: some number of an int; some text of at most 20 bytes.
  Conditions: the bytes lie in memory that was there before the draw.
-/
import Derived.Test.YtghoklonhhaddaaDoorDraw
import Derived.Test.YtghoklonhhaddaaDoorFmtSpec
namespace Go.Proofs.YtghoklonhhaddaaDoor.Draw
open Go Go.RowKit

set_option maxRecDepth 100000 in
theorem num_any (B p : Nat) (w : World) (hc : Cur 48 B p w) :
    Calls Tryd.prog 19 #[.pointer (some ⟨p, 0, none⟩)] w fun e w' => IsNat 1000000000001 e ∧ Cur 48 B p w' ∧ Only p w w' := by
  go_enter Tryd.func19, Tryd.ntmps19
  go_wp2_with fail
  go_at_call 26
  refine (below_any B p _ _ hc (by omega) (by omega)).mono ?_
  rintro e w1 ⟨⟨x, hx, rfl⟩, hc1, ho1⟩
  have hx4 : x = 0 ∨ x = 1 ∨ x = 2 ∨ x = 3 := by have : x < 4 := hx; omega
  rcases hx4 with rfl | rfl | rfl | rfl
  · go_wp2_with (go_at_call 26; refine (below_any B p _ _ hc1 (by omega) (by omega)).mono ?_; rintro e w2 ⟨⟨y, hy, rfl⟩, hc2, ho2⟩)
    go_ret
    exact ⟨⟨y, by have : y < 2000 := hy; omega, rfl⟩, hc2, ho1.trans ho2⟩
  · go_wp2_with (go_at_call 27; refine (int_new B p [0, 1, 127, 128, 2147483646, 2147483647, 1000000000000] _ _ _ rfl _ _ rfl hc1 (by decide) (by decide)).mono ?_; rintro e w2 ⟨⟨y, hy, rfl⟩, hc2, ho2⟩)
    go_ret
    exact ⟨isNat_of hy (by decide), hc2, ho1.trans ho2⟩
  · go_wp2_with fail
    go_at_call 26
    refine (below_any B p _ _ hc1 (by omega) (by omega)).mono ?_
    rintro e w2 ⟨⟨y, hy, rfl⟩, hc2, ho2⟩
    go_wp2_with fail
    go_at_call 26
    refine (below_any B p _ _ hc2 (by omega) (by omega)).mono ?_
    rintro e w3 ⟨⟨z, hz, rfl⟩, hc3, ho3⟩
    obtain ⟨hb0, hb1⟩ := prod_small y z hy hz
    go_wp2
    go_ret
    exact ⟨⟨y * z, by omega, by simp⟩, hc3, (ho1.trans ho2).trans ho3⟩
  · go_wp2_with (go_at_call 26; refine (below_any B p _ _ hc1 (by omega) (by omega)).mono ?_; rintro e w2 ⟨⟨y, hy, rfl⟩, hc2, ho2⟩)
    go_ret
    exact ⟨⟨y, by have : y < 20 := hy; omega, rfl⟩, hc2, ho1.trans ho2⟩

set_option maxRecDepth 100000 in
theorem raw_any (B p : Nat) (w : World) (hc : Cur 48 B p w) :
    Calls Tryd.prog 29 #[.pointer (some ⟨p, 0, none⟩)] w fun e w' => IsInt e ∧ Cur 48 B p w' ∧ Only p w w' := by
  go_enter Tryd.func29, Tryd.ntmps29
  go_wp2_with fail
  go_at_call 17
  refine (once_any B p _ _ hc (by omega) (by omega)).mono ?_
  rintro e w1 ⟨⟨x, rfl⟩, hc1, ho1⟩
  cases x
  · go_wp2_with (go_at_call 27; refine (int_new B p [-1, 1000000000000, 1000000000001] _ _ _ rfl _ _ rfl hc1 (by decide) (by decide)).mono ?_; rintro e w2 ⟨⟨y, hy, rfl⟩, hc2, ho2⟩)
    go_ret
    exact ⟨isInt_of hy (by decide), hc2, ho1.trans ho2⟩
  · go_wp2_with (go_at_call 34; refine (odd_any B p _ hc1).mono ?_; rintro e w2 ⟨⟨y, hy0, hy1, rfl⟩, hc2, ho2⟩)
    go_ret
    exact ⟨isInt_mk hy0 hy1, hc2, ho1.trans ho2⟩

set_option maxRecDepth 100000 in
theorem one_any (B p : Nat) (w : World) (hc : Cur 48 B p w) :
    Calls Tryd.prog 22 #[.pointer (some ⟨p, 0, none⟩)] w fun e w' => IsInt e ∧ Cur 48 B p w' ∧ Only p w w' := by
  go_enter Tryd.func22, Tryd.ntmps22
  go_wp2_with fail
  go_at_call 17
  refine (once_any B p _ _ hc (by omega) (by omega)).mono ?_
  rintro e w1 ⟨⟨x, rfl⟩, hc1, ho1⟩
  cases x
  · go_wp2_with (go_at_call 19; refine (num_any B p _ hc1).mono ?_; rintro e w2 ⟨⟨y, hy, rfl⟩, hc2, ho2⟩)
    go_ret
    exact ⟨isInt_mk (by omega) (by omega), hc2, ho1.trans ho2⟩
  · go_wp2_with (go_at_call 29; refine (raw_any B p _ hc1).mono ?_; rintro e w2 ⟨⟨y, hy0, hy1, rfl⟩, hc2, ho2⟩)
    go_ret
    exact ⟨isInt_mk hy0 hy1, hc2, ho1.trans ho2⟩

set_option maxRecDepth 100000 in
theorem draw_format (B : Nat) (a : Option Addr) (n c : Nat) (w : World) (hb : Bytes B w a n) (hB : B ≤ w.heap.size) :
    Calls Tryd.prog 9 #[.slice a n c] w fun e w' => IsInt e ∧ Below w.heap.size w w' := by
  go_enter Tryd.func9, Tryd.ntmps9
  go_wp2_with fail
  go_at_call 16
  refine (new_any B a n c _ hb hB).mono ?_
  rintro e w1 ⟨rfl, hc1, hb1⟩
  go_wp2_with (go_at_call 22; refine (one_any B _ _ hc1).mono ?_; rintro e w2 ⟨⟨y, hy0, hy1, rfl⟩, hc2, ho2⟩)
  go_ret
  exact ⟨isInt_mk hy0 hy1, hb1.trans (ho2.below (Nat.le_refl _) hb1.size)⟩

set_option maxRecDepth 100000 in
theorem draw_ceil (B : Nat) (a : Option Addr) (n c : Nat) (w : World) (hb : Bytes B w a n) (hB : B ≤ w.heap.size) :
    Calls Tryd.prog 11 #[.slice a n c] w fun e w' => IsInts e ∧ Below w.heap.size w w' := by
  go_enter Tryd.func11, Tryd.ntmps11
  go_wp2_with fail
  go_at_call 16
  refine (new_any B a n c _ hb hB).mono ?_
  rintro e w1 ⟨rfl, hc1, hb1⟩
  go_wp2_with fail
  go_at_call 22
  refine (one_any B _ _ hc1).mono ?_
  rintro e w2 ⟨⟨x, hx0, hx1, rfl⟩, hc2, ho2⟩
  go_wp2_with (go_at_call 22; refine (one_any B _ _ hc2).mono ?_; rintro e w3 ⟨⟨y, hy0, hy1, rfl⟩, hc3, ho3⟩)
  go_ret2
  exact ⟨⟨x, y, hx0, hx1, hy0, hy1, rfl⟩, hb1.trans ((ho2.trans ho3).below (Nat.le_refl _) hb1.size)⟩

set_option maxRecDepth 100000 in
theorem draw_parse (B : Nat) (a : Option Addr) (n c : Nat) (w : World) (hb : Bytes B w a n) (hB : B ≤ w.heap.size) :
    Calls Tryd.prog 7 #[.slice a n c] w fun e w' => IsShort e ∧ Below w.heap.size w w' := by
  go_enter Tryd.func7, Tryd.ntmps7
  go_wp2_with fail
  go_at_call 16
  refine (new_any B a n c _ hb hB).mono ?_
  rintro e w1 ⟨rfl, hc1, hb1⟩
  go_wp2_with fail
  go_at_call 17
  refine (once_any B _ _ _ hc1 (by omega) (by omega)).mono ?_
  rintro e w2 ⟨⟨x, rfl⟩, hc2, ho2⟩
  have hb2 := hb1.trans (ho2.below (Nat.le_refl _) hb1.size)
  cases x
  · go_wp2_with fail
    go_at_call 19
    refine (num_any B _ _ hc2).mono ?_
    rintro e w3 ⟨⟨y, hy, rfl⟩, hc3, ho3⟩
    have hb3 := hb2.trans (ho3.below (Nat.le_refl _) hb2.size)
    go_wp2_with (go_at_call 14; refine (Fmt.sfmt_any y _ (by omega) (by omega)).mono ?_; rintro e w4 ⟨rfl, hb4⟩)
    go_ret
    exact ⟨isShort_of (Fmt.itoa_len _ (by omega) (by omega)), hb3.trans (hb4.mono hb3.size)⟩
  · go_wp2_with (go_at_call 18; refine (str_new B _ [⟨#[]⟩, ⟨#[48]⟩, ⟨#[48, 48]⟩, ⟨#[45, 49]⟩, ⟨#[48, 49]⟩, ⟨#[55]⟩, ⟨#[49, 48, 48, 48, 48, 48, 48, 48, 48, 48, 48, 48, 48]⟩, ⟨#[49, 48, 48, 48, 48, 48, 48, 48, 48, 48, 48, 48, 49]⟩, ⟨#[57, 57, 57, 57, 57, 57, 57, 57, 57, 57, 57, 57, 57, 57]⟩, ⟨#[49, 120]⟩, ⟨#[32, 49]⟩] _ _ _ rfl _ _ rfl hc2 (by decide) (by decide)).mono ?_; rintro e w3 ⟨⟨y, hy, rfl⟩, hc3, ho3⟩)
    go_ret
    exact ⟨isShort_in hy (by decide), hb2.trans (ho3.below (Nat.le_refl _) hb2.size)⟩
end Go.Proofs.YtghoklonhhaddaaDoor.Draw
