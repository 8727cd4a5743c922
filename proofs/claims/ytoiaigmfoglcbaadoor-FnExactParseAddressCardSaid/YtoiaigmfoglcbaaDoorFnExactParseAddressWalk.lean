/-
  The law FnExactParseAddress returns true, and leaves what was there as it was.
  Conditions: the text takes no more than 2^48 bytes; the library's tables and its two errors hold what their initialisers lay.
-/
import Derived.Test.YtoiaigmfoglcbaaDoorAddrParse
import Derived.Test.YtoiaigmfoglcbaaDoorAddrParseS
namespace Go.Proofs.YtoiaigmfoglcbaaDoor.FnExactParseAddressW
open Go Go.RowKit Go.Proofs.YtoiaigmfoglcbaaDoor.Adr Go.Proofs.YtoiaigmfoglcbaaDoor.Fmt

set_option maxHeartbeats 1000000 in
set_option maxRecDepth 100000 in
theorem law_walk (s : ByteArray) (w : World) (hs : s.size ≤ 281474976710656) (ht : Tab w) (hE : Errs w) :
    Calls Tryd.prog 5 #[.string s] w fun e w' => e = .returned (.bool true) ∧ Below w.heap.size w w' := by
  by_cases hbig : 1048576 < s.size
  · have hb : (1048576 : Int) < (s.size : Int) := by omega
    go_enter Tryd.func5, Tryd.ntmps5
    go_wp2
    go_ret
    exact ⟨rfl, Below.refl _ _⟩
  have hb : ¬ (1048576 : Int) < (s.size : Int) := by omega
  have h1 := parse_spec s w hs
  have h2 := fun W h h' => parse_impl s W hs h h'
  generalize paH s.data.toList = a at *
  generalize paP s.data.toList = b at *
  generalize paQ s.data.toList = c at *
  generalize paY s.data.toList = y at *
  go_enter Tryd.func5, Tryd.ntmps5
  go_wp2_with fail
  go_at_call 18
  refine h1.mono ?_
  rintro e w1 ⟨rfl, hb1⟩
  have hB1 := hb1.alloc hb1.size (.cells #[.int .i64 a, .int .i64 b, .int .i64 c] 25)
  have bx := box_new w1 25 a b c
  clear h1
  go_wp2_with fail
  go_at_call 8
  refine (h2 _ (ht.on hB1) (hE.on hB1)).mono ?_
  rintro e w2 ⟨rfl, hb2⟩
  have hB2 := hB1.trans (hb2.mono hB1.size)
  obtain ⟨c0, c1, c2⟩ := (bx.below hb2).alloc (.cells #[.int .i64 a, .int .i64 b, .int .i64 c] 25)
  have hB3 := hB2.alloc hB2.size (.cells #[.int .i64 a, .int .i64 b, .int .i64 c] 25)
  clear h2 bx
  go_wp2_with (go_at_call 19; refine (eq_addr _ _ _ _).mono ?_; rintro e w4 ⟨rfl, hb4⟩)
  go_ret
  exact ⟨rfl, hB3.trans (hb4.mono hB3.size)⟩
end Go.Proofs.YtoiaigmfoglcbaaDoor.FnExactParseAddressW
