/-
  The laws' own test whether two rows of []byte are the same, where they are.
  Conditions: the rows lie in memory that was there.
-/
import Derived.Test.YtmiemfecbllhfaaProg
import Derived.Test.YtmiemfecbllhfaaMem
import Derived.WalkKit
import Derived.BigQuiet
import Derived.Deep.QuietTactic
namespace Go.Proofs.Ytmiemfecbllhfaa.SameB
open Go Go.RowKit Go.Proofs.Ytmiemfecbllhfaa.Mem

set_option maxHeartbeats 800000 in
set_option maxRecDepth 100000 in
theorem eq_same (l1 h1 l2 h2 : Nat) (w : World) (a b : Option Addr) (n c d : Nat) (zs : List Int) (ha : Row .u8 l1 h1 w a n zs) (hb : Row .u8 l2 h2 w b n zs) (hn : n ≤ 9223372036854775807) :
    Calls Try.prog 15 #[.slice a n c, .slice b n d] w fun e w' => e = .returned (.bool true) ∧ ∃ m, w' = w.drewN m := by
  go_enter Try.func15, Try.ntmps15
  go_wp2
  go_loopw [5] (fun i wr => ∃ j m : Nat, j ≤ n ∧ i = .int .i64 j ∧ wr = w.drewN m) (fun i _ => n - (intOf i).toNat)
  case atStart => exact ⟨0, 0, Nat.zero_le _, rfl, rfl⟩
  case round =>
    obtain ⟨j, m, hj, rfl, rfl⟩ := hrel
    by_cases hlt : j < n
    · obtain ⟨b1, o1, rfl, _, _, hc1⟩ := ha.cell hlt
      obtain ⟨b2, o2, rfl, _, _, hc2⟩ := hb.cell hlt
      go_wp2
      go_quiet (fail)
      go_wp2
      go_roundw
      case rel => exact ⟨j + 1, _, by omega, by go_num, rfl⟩
      case measure => simp [intOf]; omega
    · have hd : decide ((j : Int) < (n : Int)) = false := by simp; omega
      go_wp2
      go_ret
      exact ⟨rfl, _, rfl⟩

end Go.Proofs.Ytmiemfecbllhfaa.SameB
