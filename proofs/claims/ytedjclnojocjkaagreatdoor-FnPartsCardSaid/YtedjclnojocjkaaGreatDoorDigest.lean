/-
  DigestOf, of the program and of the model: Hash of a resource's numbers.
  Conditions: the body is a row in memory, of at most 2^40 numbers.
-/
import Derived.Test.YtedjclnojocjkaaGreatDoorHash
import Derived.Test.YtedjclnojocjkaaGreatDoorResInts
namespace Go.Proofs.YtedjclnojocjkaaGreatDoor.Res
open Go Go.RowKit Go.Proofs.YtedjclnojocjkaaGreatDoor.Mem Go.Proofs.YtedjclnojocjkaaGreatDoor.Adr

/-- A resource's digest. -/
def dig (k h p q : Int) (n : Nat) (zs : List Int) : Int := Hsh.hash (nums k h p q n zs)
theorem dig_range (k h p q : Int) (n : Nat) (zs : List Int) : 0 ≤ dig k h p q n zs ∧ dig k h p q n zs < 2147483647 := Hsh.hash_range _

set_option maxHeartbeats 800000 in
set_option maxRecDepth 100000 in
theorem digest_impl (lo hi : Nat) (k h p q : Int) (w : World) (a : Option Addr) (n c : Nat) (zs : List Int) (hr : Row .i64 lo hi w a n zs) (hn : n ≤ 1099511627776) (wk : Wf k) (wh : Wf h) (wp : Wf p) (wq : Wf q) :
    Calls Tryz.prog 9 #[(Value.agg #[Value.int IntKind.i64 (k), Value.slice (a) (n) (c), Value.int IntKind.i64 (h), Value.int IntKind.i64 (p), Value.int IntKind.i64 (q)])] w fun e w' => e = .returned (.int .i64 (dig k h p q n zs)) ∧ Below w.heap.size w w' := by
  have hB1 : Below w.heap.size w (w.alloc (.cells #[.int .i64 k, .slice a n c, .int .i64 h, .int .i64 p, .int .i64 q] 29)) := by repeat' (first | exact Below.refl _ _ | assumption | refine Below.setCell ?_ ?_ _ | refine Below.alloc ?_ ?_ _ | refine Adr.below_drewN ?_ _ | refine Below.drew ?_ | exact Nat.le_refl _ | omega | (dsimp only; omega) | refine Adr.le_alloc ?_ | refine Adr.le_set ?_ | refine Adr.le_drewN ?_ | refine Adr.le_drew ?_)
  have hI := ints_impl lo hi k h p q _ a n c zs (hr.below hB1) hn wk wh wp wq
  have hs := hB1.size
  clear hr
  go_enter Tryz.func9, Tryz.ntmps9
  go_wp2_with fail
  go_at_call 41
  refine hI.mono ?_
  rintro e w1 ⟨a1, c1, rfl, ho, _, _, hb1⟩
  have hB2 := hB1.trans (hb1.mono hs)
  go_wp2_with fail
  go_at_call 40
  refine (Hsh.hash_impl _ _ _ _ _ _ _ ho.row (by omega)).mono ?_
  rintro e w2 ⟨rfl, rfl⟩
  go_wp2
  go_ret
  exact ⟨rfl, hB2⟩

set_option maxHeartbeats 800000 in
set_option maxRecDepth 100000 in
theorem digest_spec (lo hi : Nat) (k h p q : Int) (w : World) (a : Option Addr) (n c : Nat) (zs : List Int) (hr : Row .i64 lo hi w a n zs) (hn : n ≤ 1099511627776) (wk : Wf k) (wh : Wf h) (wp : Wf p) (wq : Wf q) :
    Calls Tryz.prog 12 #[(Value.agg #[Value.int IntKind.i64 (k), Value.slice (a) (n) (c), Value.int IntKind.i64 (h), Value.int IntKind.i64 (p), Value.int IntKind.i64 (q)])] w fun e w' => e = .returned (.int .i64 (dig k h p q n zs)) ∧ Below w.heap.size w w' := by
  have hB1 : Below w.heap.size w (w.alloc (.cells #[.int .i64 k, .slice a n c, .int .i64 h, .int .i64 p, .int .i64 q] 29)) := by repeat' (first | exact Below.refl _ _ | assumption | refine Below.setCell ?_ ?_ _ | refine Below.alloc ?_ ?_ _ | refine Adr.below_drewN ?_ _ | refine Below.drew ?_ | exact Nat.le_refl _ | omega | (dsimp only; omega) | refine Adr.le_alloc ?_ | refine Adr.le_set ?_ | refine Adr.le_drewN ?_ | refine Adr.le_drew ?_)
  have hI := ints_spec lo hi k h p q _ a n c zs (hr.below hB1) hn wk wh wp wq
  have hs := hB1.size
  clear hr
  go_enter Tryz.func12, Tryz.ntmps12
  go_wp2_with fail
  go_at_call 48
  refine hI.mono ?_
  rintro e w1 ⟨a1, c1, rfl, ho, _, _, hb1⟩
  have hB2 := hB1.trans (hb1.mono hs)
  go_wp2_with fail
  go_at_call 47
  refine (Hsh.hash_spec _ _ _ _ _ _ _ ho.row (by omega)).mono ?_
  rintro e w2 ⟨rfl, rfl⟩
  go_wp2
  go_ret
  exact ⟨rfl, hB2⟩
end Go.Proofs.YtedjclnojocjkaaGreatDoor.Res
