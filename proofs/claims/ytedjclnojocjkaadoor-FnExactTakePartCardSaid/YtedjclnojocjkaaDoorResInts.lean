/-
  ResourceInts, of the program and of the model: five numbers, then the body's; EqualResources, of both.
  Conditions: the body is a row in memory, of at most 2^40 numbers.
-/
import Derived.Test.YtedjclnojocjkaaDoorRes
import Derived.Test.YtedjclnojocjkaaDoorEqI
import Derived.Deep.RegionHeld3
namespace Go.Proofs.YtedjclnojocjkaaDoor.Res
open Go Go.RowKit Go.Proofs.YtedjclnojocjkaaDoor.Mem Go.Proofs.YtedjclnojocjkaaDoor.Adr

/-- A resource's numbers. -/
def nums (k h p q : Int) (n : Nat) (zs : List Int) : List Int := [k, h, p, q, (n : Int)] ++ zs
theorem nums_len {k h p q : Int} {n : Nat} {zs : List Int} (h0 : zs.length = n) : (nums k h p q n zs).length = 5 + n := by simp [nums, h0]; omega
theorem nums_inj {k h p q k' h' p' q' : Int} {n n' : Nat} {zs zs' : List Int} (h0 : zs.length = n) (h1 : zs'.length = n') : (nums k h p q n zs = nums k' h' p' q' n' zs') ↔ (k = k' ∧ (h = h' ∧ p = p' ∧ q = q') ∧ zs = zs') := by
  unfold nums
  simp only [List.cons_append, List.nil_append, List.cons.injEq]
  constructor
  · rintro ⟨rfl, rfl, rfl, rfl, _, rfl⟩; exact ⟨rfl, ⟨rfl, rfl, rfl⟩, rfl⟩
  · rintro ⟨rfl, ⟨rfl, rfl, rfl⟩, rfl⟩; exact ⟨rfl, rfl, rfl, rfl, by rw [← h0, ← h1], rfl⟩
def Wf (z : Int) : Prop := (Lit.int .i64 z).wf = true

set_option maxHeartbeats 800000 in
set_option maxRecDepth 100000 in
theorem ints_impl (lo hi : Nat) (k h p q : Int) (w : World) (a : Option Addr) (n c : Nat) (zs : List Int) (hr : Row .i64 lo hi w a n zs) (hn : n ≤ 1099511627776) (wk : Wf k) (wh : Wf h) (wp : Wf p) (wq : Wf q) :
    Calls Tryd.prog 57 #[(Value.agg #[Value.int IntKind.i64 (k), Value.slice (a) (n) (c), Value.int IntKind.i64 (h), Value.int IntKind.i64 (p), Value.int IntKind.i64 (q)])] w (Slice .i64 w.heap.size (5 + n) (nums k h p q n zs) w) := by
  obtain ⟨i0, hi0, hz0, hz1, hz2⟩ := info_parts Nts.info
  have hB1 : Below w.heap.size w ((w.alloc (.cells #[.int .i64 k, .slice a n c, .int .i64 h, .int .i64 p, .int .i64 q] 44)).alloc (.cells #[.int .i64 k, .int .i64 h, .int .i64 p, .int .i64 q, .int .i64 n] 3)) := by repeat' (first | exact Below.refl _ _ | assumption | refine Below.setCell ?_ ?_ _ | refine Below.alloc ?_ ?_ _ | refine Adr.below_drewN ?_ _ | refine Below.drew ?_ | exact Nat.le_refl _ | omega | (dsimp only; omega) | refine Adr.le_alloc ?_ | refine Adr.le_set ?_ | refine Adr.le_drewN ?_ | refine Adr.le_drew ?_)
  have hr1 := hr.below hB1
  have hs := OwnI.lit .i64 3 (base := w.heap.size) (w.alloc (.cells #[.int .i64 k, .slice a n c, .int .i64 h, .int .i64 p, .int .i64 q] 44)) [k, h, p, q, (n : Int)] (by rw [size_alloc]; omega) (by unfold maxLen; simp)
  simp only [List.map_cons, List.map_nil, List.length_cons, List.length_nil, Nat.zero_add, Nat.reduceAdd, size_alloc] at hs
  have wall : ∀ z ∈ nums k h p q n zs, (Lit.int .i64 z).wf = true := by
    intro z hz
    simp only [nums, List.cons_append, List.nil_append, List.mem_cons] at hz
    rcases hz with rfl | rfl | rfl | rfl | rfl | hz
    · exact wk
    · exact wh
    · exact wp
    · exact wq
    · exact WalkArith.wf_i64 (by omega)
    · exact hr.wf z hz
  clear hr
  go_enter Tryd.func57, Tryd.ntmps57
  go_wp2_with (at_builtin; refine wpList_append_row rfl _ _ 34 rfl w.heap.size 3 i0 _ 8 Tryd.underlying34 hi0 hz0 hz1 hz2 rfl _ 5 [k, h, p, q, (n : Int)] rfl hs lo hi a n c zs rfl hr1 ?c1 ?c2 ?c3 ?_; (case c1 => unfold maxLen; omega); (case c2 => omega); (case c3 => exact hB1.size); intro v2 w2 ho2 hb2)
  obtain ⟨a2, c2, rfl, h1, h2, h3⟩ := ho2.own wall
  go_ret
  exact ⟨a2, c2, rfl, h3, h1, h2, hB1.trans hb2⟩

set_option maxHeartbeats 800000 in
set_option maxRecDepth 100000 in
theorem ints_spec (lo hi : Nat) (k h p q : Int) (w : World) (a : Option Addr) (n c : Nat) (zs : List Int) (hr : Row .i64 lo hi w a n zs) (hn : n ≤ 1099511627776) (wk : Wf k) (wh : Wf h) (wp : Wf p) (wq : Wf q) :
    Calls Tryd.prog 34 #[(Value.agg #[Value.int IntKind.i64 (k), Value.slice (a) (n) (c), Value.int IntKind.i64 (h), Value.int IntKind.i64 (p), Value.int IntKind.i64 (q)])] w (Slice .i64 w.heap.size (5 + n) (nums k h p q n zs) w) := by
  obtain ⟨i0, hi0, hz0, hz1, hz2⟩ := info_parts Nts.info
  have hB1 : Below w.heap.size w ((w.alloc (.cells #[.int .i64 k, .slice a n c, .int .i64 h, .int .i64 p, .int .i64 q] 44)).alloc (.cells #[.int .i64 k, .int .i64 h, .int .i64 p, .int .i64 q, .int .i64 n] 3)) := by repeat' (first | exact Below.refl _ _ | assumption | refine Below.setCell ?_ ?_ _ | refine Below.alloc ?_ ?_ _ | refine Adr.below_drewN ?_ _ | refine Below.drew ?_ | exact Nat.le_refl _ | omega | (dsimp only; omega) | refine Adr.le_alloc ?_ | refine Adr.le_set ?_ | refine Adr.le_drewN ?_ | refine Adr.le_drew ?_)
  have hr1 := hr.below hB1
  have hs := OwnI.lit .i64 3 (base := w.heap.size) (w.alloc (.cells #[.int .i64 k, .slice a n c, .int .i64 h, .int .i64 p, .int .i64 q] 44)) [k, h, p, q, (n : Int)] (by rw [size_alloc]; omega) (by unfold maxLen; simp)
  simp only [List.map_cons, List.map_nil, List.length_cons, List.length_nil, Nat.zero_add, Nat.reduceAdd, size_alloc] at hs
  have wall : ∀ z ∈ nums k h p q n zs, (Lit.int .i64 z).wf = true := by
    intro z hz
    simp only [nums, List.cons_append, List.nil_append, List.mem_cons] at hz
    rcases hz with rfl | rfl | rfl | rfl | rfl | hz
    · exact wk
    · exact wh
    · exact wp
    · exact wq
    · exact WalkArith.wf_i64 (by omega)
    · exact hr.wf z hz
  clear hr
  go_enter Tryd.func34, Tryd.ntmps34
  go_wp2_with (at_builtin; refine wpList_append_row rfl _ _ 34 rfl w.heap.size 3 i0 _ 8 Tryd.underlying34 hi0 hz0 hz1 hz2 rfl _ 5 [k, h, p, q, (n : Int)] rfl hs lo hi a n c zs rfl hr1 ?c1 ?c2 ?c3 ?_; (case c1 => unfold maxLen; omega); (case c2 => omega); (case c3 => exact hB1.size); intro v2 w2 ho2 hb2)
  obtain ⟨a2, c2, rfl, h1, h2, h3⟩ := ho2.own wall
  go_ret
  exact ⟨a2, c2, rfl, h3, h1, h2, hB1.trans hb2⟩

end Go.Proofs.YtedjclnojocjkaaDoor.Res
