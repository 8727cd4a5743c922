/-
  The law FnExactAddressText returns true, and leaves what was there as it was.
  Conditions: the numbers are ints of 64 bits; the library's table of powers of ten holds what its initialiser lays.
-/
import Derived.Test.YtoiaigmfoglcbaaDoorAddrText
namespace Go.Proofs.YtoiaigmfoglcbaaDoor.FnExactAddressTextW
open Go Go.RowKit Go.Proofs.YtoiaigmfoglcbaaDoor.Adr Go.Proofs.YtoiaigmfoglcbaaDoor.Fmt

set_option maxHeartbeats 1000000 in
set_option maxRecDepth 100000 in
theorem law_walk (h p q : Int) (w : World) (l0 : -9223372036854775808 ≤ h) (u0 : h ≤ 9223372036854775807) (l1 : -9223372036854775808 ≤ p) (u1 : p ≤ 9223372036854775807) (l2 : -9223372036854775808 ≤ q) (u2 : q ≤ 9223372036854775807) (ht : Tab w) :
    Calls Tryd.prog 4 #[(Value.agg #[Value.int IntKind.i64 (h), Value.int IntKind.i64 (p), Value.int IntKind.i64 (q)])] w fun e w' => e = .returned (.bool true) ∧ Below w.heap.size w w' := by
  have bx := box_new w 37 h p q
  have hB0 : Below w.heap.size w (w.alloc (.cells #[.int .i64 h, .int .i64 p, .int .i64 q] 37)) := by repeat' (first | exact Below.refl _ _ | assumption | refine Below.setCell ?_ ?_ _ | refine Below.alloc ?_ ?_ _ | refine Adr.below_drewN ?_ _ | refine Below.drew ?_ | exact Nat.le_refl _ | omega | refine Adr.le_alloc ?_ | refine Adr.le_set ?_ | refine Adr.le_drewN ?_ | refine Adr.le_drew ?_)
  have ht0 := ht.on hB0
  go_enter Tryd.func4, Tryd.ntmps4
  go_wp2_with fail
  go_at_call 17
  refine (to_addr h p q _).mono ?_
  rintro e w1 ⟨rfl, hb1⟩
  have bx1 := bx.below hb1
  have ht1 := ht0.on hb1
  have hB1 := hB0.trans (hb1.mono hB0.size)
  go_wp2_with fail
  go_at_call 16
  refine (text_spec h p q _ l0 u0 l1 u1 l2 u2).mono ?_
  rintro e w2 ⟨rfl, hb2⟩
  obtain ⟨c0, c1, c2⟩ := bx1.below hb2
  have ht2 := ht1.on hb2
  have hB2 := hB1.trans (hb2.mono hB1.size)
  clear bx bx1 hB0 hb1 hB1 hb2 ht ht0 ht1
  go_wp2_with fail
  go_at_call 17
  refine (to_addr h p q _).mono ?_
  rintro e w3 ⟨rfl, hb3⟩
  have ht3 := ht2.on hb3
  have hB3 := hB2.trans (hb3.mono hB2.size)
  go_wp2_with fail
  go_at_call 9
  refine (text_impl h p q _ l0 u0 l1 u1 l2 u2 ht3).mono ?_
  rintro e w4 ⟨rfl, hb4⟩
  have hB4 := hB3.trans (hb4.mono hB3.size)
  go_wp2
  go_ret
  exact ⟨rfl, hB4⟩
end Go.Proofs.YtoiaigmfoglcbaaDoor.FnExactAddressTextW
