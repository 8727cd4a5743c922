/-
  The law FnExactDeriveFromString returns true, and leaves what was there as it was.
  Conditions: the arguments can be read.
-/
import Derived.Test.YtmiemfecbllhfaaDerive
namespace Go.Proofs.Ytmiemfecbllhfaa.FnExactDeriveFromStringW
open Go Go.RowKit Go.Proofs.Ytmiemfecbllhfaa.Mem

set_option maxHeartbeats 2000000 in
set_option maxRecDepth 100000 in
theorem walk_small (x0 : Int) (x1 : ByteArray) (w : World) (hx0 : (Lit.int .i64 x0).wf = true) (k1 : x1.size ≤ 1048576) :
    Calls Try.prog 11 #[.int .i64 x0, .string x1] w fun e w' => e = .returned (.bool true) ∧ Below w.heap.size w w' := by
  go_enter Try.func11, Try.ntmps11
  go_wp2_with fail
  go_at_call 41
  refine (Hsh.derive_spec _ x0 x1 hx0 (by omega)).mono ?_
  rintro e w1 ⟨rfl, hb1⟩
  have hs1 := hb1.size
  have hB1 := hb1
  go_wp2_with fail
  go_at_call 25
  refine (Hsh.derive_impl _ x0 x1 hx0 (by omega)).mono ?_
  rintro e w2 ⟨rfl, hb2⟩
  have hs2 := hb2.size
  have hB2 := hB1.trans (hb2.mono hB1.size)
  go_wp2
  go_ret
  exact ⟨rfl, hB2⟩

set_option maxRecDepth 100000 in
theorem law_walk (x0 : Int) (x1 : ByteArray) (w : World) (hx0 : (Lit.int .i64 x0).wf = true) :
    Calls Try.prog 11 #[.int .i64 x0, .string x1] w fun e w' => e = .returned (.bool true) ∧ Below w.heap.size w w' := by
  by_cases k1 : x1.size ≤ 1048576
  rotate_left
  · have k1' : (1048576 : Int) < (x1.size : Nat) := by omega
    go_enter Try.func11, Try.ntmps11
    go_wp2
    go_ret
    exact ⟨rfl, Below.refl _ _⟩
  exact walk_small x0 x1 w  hx0 k1
end Go.Proofs.Ytmiemfecbllhfaa.FnExactDeriveFromStringW
