/-
  The law FnExactWithoutQuery returns true, and leaves what was there as it was.
  Conditions: none.
-/
import Derived.Test.YtoiaigmfoglcbaaAdrSpec
namespace Go.Proofs.Ytoiaigmfoglcbaa.FnExactWithoutQueryW
open Go Go.RowKit Go.Proofs.Ytoiaigmfoglcbaa.Adr

set_option maxHeartbeats 1000000 in
set_option maxRecDepth 100000 in
theorem law_walk (h p q : Int) (w : World) :
    Calls Try.prog 4 #[(Value.agg #[Value.int IntKind.i64 (h), Value.int IntKind.i64 (p), Value.int IntKind.i64 (q)])] w fun e w' => e = .returned (.bool true) ∧ Below w.heap.size w w' := by
  have bx := box_new w 23 h p q
  have hB0 : Below w.heap.size w (w.alloc (.cells #[.int .i64 h, .int .i64 p, .int .i64 q] 23)) := by repeat' (first | exact Below.refl _ _ | assumption | refine Below.setCell ?_ ?_ _ | refine Below.alloc ?_ ?_ _ | refine Adr.below_drewN ?_ _ | refine Below.drew ?_ | exact Nat.le_refl _ | omega | refine Adr.le_alloc ?_ | refine Adr.le_set ?_ | refine Adr.le_drewN ?_ | refine Adr.le_drew ?_)
  go_enter Try.func4, Try.ntmps4
  go_wp2_with fail
  go_at_call 8
  refine (to_addr h p q _).mono ?_
  rintro e w1 ⟨rfl, hb1⟩
  have bx1 := bx.below hb1
  have hB1 := hB0.trans (hb1.mono hB0.size)
  go_wp2_with fail
  go_at_call 10
  refine (without_spec h p q _).mono ?_
  rintro e w2 ⟨rfl, hb2⟩
  obtain ⟨c0, c1, c2⟩ := (bx1.below hb2).alloc (.cells #[.int .i64 h, .int .i64 p, .int .i64 0] 25)
  have bm := box_new w2 25 h p 0
  have hB2 := (hB1.trans (hb2.mono hB1.size)).alloc (by have := hb2.size; have := hB1.size; omega) (.cells #[.int .i64 h, .int .i64 p, .int .i64 0] 25)
  clear bx bx1 hB0 hb1 hB1 hb2
  go_wp2_with fail
  go_at_call 8
  refine (to_addr h p q _).mono ?_
  rintro e w3 ⟨rfl, hb3⟩
  have bm3 := bm.below hb3
  have hB3 := hB2.trans (hb3.mono hB2.size)
  go_wp2_with fail
  go_at_call 11
  refine (without_impl h p q _).mono ?_
  rintro e w4 ⟨rfl, hb4⟩
  obtain ⟨d0, d1, d2⟩ := (bm3.below hb4).alloc (.cells #[.int .i64 h, .int .i64 p, .int .i64 0] 25)
  have hB4 := (hB3.trans (hb4.mono hB3.size)).alloc (by have := hb4.size; have := hB3.size; omega) (.cells #[.int .i64 h, .int .i64 p, .int .i64 0] 25)
  go_wp2_with fail
  go_at_call 12
  refine (eq_addr h p 0 _).mono ?_
  rintro e w5 ⟨rfl, hb5⟩
  have hB5 := hB4.trans (hb5.mono hB4.size)
  go_wp2
  go_ret
  exact ⟨rfl, hB5⟩
end Go.Proofs.Ytoiaigmfoglcbaa.FnExactWithoutQueryW
