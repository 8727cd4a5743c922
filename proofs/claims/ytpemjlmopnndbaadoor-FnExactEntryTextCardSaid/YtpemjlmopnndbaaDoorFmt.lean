/-
  The program's FormatInt returns the decimal numeral of every int; of what was in memory nothing is changed.
  Conditions: the argument is an int of 64 bits; the library's table of powers of ten holds what its initialiser lays.
-/
import Derived.Test.YtpemjlmopnndbaaDoorRows
import Derived.Test.YtpemjlmopnndbaaDoorShelfItoa
import Derived.Lib.AppendIntMem
import Derived.WalkKit
namespace Go.Proofs.YtpemjlmopnndbaaDoor.Fmt
open Go Go.RowKit

/-- The table of powers of ten holds what its initialiser lays, in this world and in each that leaves the old memory as it was. -/
def Tab (w : World) : Prop := Lib.TabIs Tryd.prog w "internal/strconv.uint64pow10" .u64 Lib.pow10Tab

theorem Tab.on {w w1 : World} (h : Tab w) (hb : Below w.heap.size w w1) : Tab w1 := (Lib.tabBelow_of_tabIs h).on hb |>.here
theorem Tab.alloc {w : World} (h : Tab w) (o : Obj) : Tab (w.alloc o) := Lib.tabIs_alloc h o

set_option maxRecDepth 100000 in
theorem fmt_any (n : Int) (w : World) (h0 : -9223372036854775808 ≤ n) (h1 : n ≤ 9223372036854775807) (ht : Tab w) :
    Calls Tryd.prog 15 #[.int .i64 n] w fun e w' => e = .returned (.string ⟨(Lib.itoa n).toArray⟩) ∧ Below w.heap.size w w' := by
  go_enter Tryd.func15, Tryd.ntmps15
  go_wp2_with (go_at_call 19; refine (Tryd.strconv_Itoa n h0 h1 _ ht).mono ?_; rintro e w' ⟨rfl, k, os, rfl⟩)
  go_ret
  exact ⟨rfl, Lib.below_grow _ _ (Nat.le_refl _) _ _⟩
end Go.Proofs.YtpemjlmopnndbaaDoor.Fmt
