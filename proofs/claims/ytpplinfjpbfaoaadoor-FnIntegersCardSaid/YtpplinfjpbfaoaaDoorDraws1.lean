/-
  What the draws of the integers' law hand back: some number of an int; some text of at most 20 bytes.
  Conditions: the bytes lie in memory that was there before the draw.
-/
import Derived.Test.YtpplinfjpbfaoaaDoorDrawOnce
import Derived.Test.YtpplinfjpbfaoaaDoorDrawStr
import Derived.Test.YtpplinfjpbfaoaaDoorDrawNum
import Derived.Test.YtpplinfjpbfaoaaDoorFmtSpec
namespace Go.Proofs.YtpplinfjpbfaoaaDoor.Draw
open Go Go.RowKit

set_option maxRecDepth 100000 in
theorem draw_format (B : Nat) (a : Option Addr) (n c : Nat) (w : World) (hb : Bytes B w a n) (hB : B ≤ w.heap.size) :
    Calls Tryd.prog 8 #[.slice a n c] w fun e w' => IsInt e ∧ Below w.heap.size w w' := by
  go_enter Tryd.func8, Tryd.ntmps8
  go_wp2_with fail
  go_at_call 14
  refine (new_any B a n c _ hb hB).mono ?_
  rintro e w1 ⟨rfl, hc1, hb1⟩
  go_wp2_with (go_at_call 21; refine (one_any B _ _ hc1).mono ?_; rintro e w2 ⟨⟨y, hy0, hy1, rfl⟩, hc2, ho2⟩)
  go_ret
  exact ⟨isInt_mk hy0 hy1, hb1.trans (ho2.below (Nat.le_refl _) hb1.size)⟩

set_option maxRecDepth 100000 in
theorem draw_ceil (B : Nat) (a : Option Addr) (n c : Nat) (w : World) (hb : Bytes B w a n) (hB : B ≤ w.heap.size) :
    Calls Tryd.prog 10 #[.slice a n c] w fun e w' => IsInts e ∧ Below w.heap.size w w' := by
  go_enter Tryd.func10, Tryd.ntmps10
  go_wp2_with fail
  go_at_call 14
  refine (new_any B a n c _ hb hB).mono ?_
  rintro e w1 ⟨rfl, hc1, hb1⟩
  go_wp2_with fail
  go_at_call 21
  refine (one_any B _ _ hc1).mono ?_
  rintro e w2 ⟨⟨x, hx0, hx1, rfl⟩, hc2, ho2⟩
  go_wp2_with (go_at_call 21; refine (one_any B _ _ hc2).mono ?_; rintro e w3 ⟨⟨y, hy0, hy1, rfl⟩, hc3, ho3⟩)
  go_ret2
  exact ⟨⟨x, y, hx0, hx1, hy0, hy1, rfl⟩, hb1.trans ((ho2.trans ho3).below (Nat.le_refl _) hb1.size)⟩

set_option maxRecDepth 100000 in
theorem draw_parse (B : Nat) (a : Option Addr) (n c : Nat) (w : World) (hb : Bytes B w a n) (hB : B ≤ w.heap.size) :
    Calls Tryd.prog 6 #[.slice a n c] w fun e w' => IsShort e ∧ Below w.heap.size w w' := by
  go_enter Tryd.func6, Tryd.ntmps6
  go_wp2_with fail
  go_at_call 14
  refine (new_any B a n c _ hb hB).mono ?_
  rintro e w1 ⟨rfl, hc1, hb1⟩
  go_wp2_with fail
  go_at_call 15
  refine (once_any B _ _ _ hc1 (by omega) (by omega)).mono ?_
  rintro e w2 ⟨⟨x, rfl⟩, hc2, ho2⟩
  have hb2 := hb1.trans (ho2.below (Nat.le_refl _) hb1.size)
  cases x
  · go_wp2_with fail
    go_at_call 18
    refine (num_any B _ _ hc2).mono ?_
    rintro e w3 ⟨⟨y, hy, rfl⟩, hc3, ho3⟩
    have hb3 := hb2.trans (ho3.below (Nat.le_refl _) hb2.size)
    go_wp2_with (go_at_call 17; refine (Fmt.sfmt_any y _ (by omega) (by omega)).mono ?_; rintro e w4 ⟨rfl, hb4⟩)
    go_ret
    exact ⟨isShort_of (Fmt.itoa_len _ (by omega) (by omega)), hb3.trans (hb4.mono hb3.size)⟩
  · go_wp2_with (go_at_call 16; refine (str_new B _ [⟨#[]⟩, ⟨#[48]⟩, ⟨#[48, 48]⟩, ⟨#[45, 49]⟩, ⟨#[48, 49]⟩, ⟨#[55]⟩, ⟨#[49, 48, 48, 48, 48, 48, 48, 48, 48, 48, 48, 48, 48]⟩, ⟨#[49, 48, 48, 48, 48, 48, 48, 48, 48, 48, 48, 48, 49]⟩, ⟨#[57, 57, 57, 57, 57, 57, 57, 57, 57, 57, 57, 57, 57, 57]⟩, ⟨#[49, 120]⟩, ⟨#[32, 49]⟩] _ _ _ rfl _ _ rfl hc2 (by decide) (by decide)).mono ?_; rintro e w3 ⟨⟨y, hy, rfl⟩, hc3, ho3⟩)
    go_ret
    exact ⟨isShort_in hy (by decide), hb2.trans (ho3.below (Nat.le_refl _) hb2.size)⟩
end Go.Proofs.YtpplinfjpbfaoaaDoor.Draw
