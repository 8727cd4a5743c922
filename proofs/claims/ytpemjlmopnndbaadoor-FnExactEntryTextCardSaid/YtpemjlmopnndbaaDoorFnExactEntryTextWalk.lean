/-
  The law FnExactEntryText returns true, and leaves what was there as it was.
  Conditions: the numbers are ints of 64 bits; the library's table of powers of ten holds what its initialiser lays.
-/
import Derived.Test.YtpemjlmopnndbaaDoorEntT
import Derived.Test.YtpemjlmopnndbaaDoorGEntry
namespace Go.Proofs.YtpemjlmopnndbaaDoor.FnExactEntryTextW
open Go Go.RowKit Go.Proofs.YtpemjlmopnndbaaDoor.Mem Go.Proofs.YtpemjlmopnndbaaDoor.Gen Go.Proofs.YtpemjlmopnndbaaDoor.Fmt Go.Proofs.YtpemjlmopnndbaaDoor.Rec

set_option maxHeartbeats 1000000 in
set_option maxRecDepth 100000 in
theorem law_walk (k h p q v : Int) (w : World) (l0 : -9223372036854775808 ≤ h) (u0 : h ≤ 9223372036854775807) (l1 : -9223372036854775808 ≤ p) (u1 : p ≤ 9223372036854775807) (l2 : -9223372036854775808 ≤ q) (u2 : q ≤ 9223372036854775807) (l3 : -9223372036854775808 ≤ v) (u3 : v ≤ 9223372036854775807) (ht : Tab w) :
    Calls Tryd.prog 3 #[.agg #[.int .i64 k, .int .i64 h, .int .i64 p, .int .i64 q, .int .i64 v]] w fun e w' => e = .returned (.bool true) ∧ Below w.heap.size w w' := by
  obtain ⟨W, hW⟩ : ∃ Z, w.alloc (.cells #[.int .i64 k, .int .i64 h, .int .i64 p, .int .i64 q, .int .i64 v] 25) = Z := ⟨_, rfl⟩
  have hB : Below w.heap.size w W := by rw [← hW]; exact (Below.refl _ _).alloc (Nat.le_refl _) _
  have qE : Blk 25 w.heap.size [.int .i64 k, .int .i64 h, .int .i64 p, .int .i64 q, .int .i64 v] W := by rw [← hW]; exact Blk.new _ [_, _, _, _, _] w
  have htW := ht.on hB
  clear ht
  obtain ⟨bE, hbE⟩ : ∃ b, w.heap.size = b := ⟨_, rfl⟩
  rw [hbE] at qE
  have HW := Lib.hid hW
  have HBE := Lib.hid hbE
  have kC := fun V => gto_Entry (w := V) ⟨k, ⟨h, p, q⟩, v⟩
  have kS := fun V => etext_spec k h p q v V l0 u0 l1 u1 l2 u2 l3 u3
  have kI := fun V hV => etext_impl k h p q v V l0 u0 l1 u1 l2 u2 l3 u3 hV
  obtain ⟨E, hE⟩ : ∃ s, etext k h p q v = s := ⟨_, rfl⟩
  simp only [hE] at kS kI
  clear hE hW hbE
  go_enter Tryd.func3, Tryd.ntmps3
  go_upto_region 1 with fail
  rw [HW.out, HBE.out]
  have y0 : W.cell? ⟨bE, 0, none⟩ = some (.int .i64 k) := qE.at rfl
  have y1 : W.cell? ⟨bE, 1, none⟩ = some (.int .i64 h) := qE.at rfl
  have y2 : W.cell? ⟨bE, 2, none⟩ = some (.int .i64 p) := qE.at rfl
  have y3 : W.cell? ⟨bE, 3, none⟩ = some (.int .i64 q) := qE.at rfl
  have y4 : W.cell? ⟨bE, 4, none⟩ = some (.int .i64 v) := qE.at rfl
  go_wp2_with fail
  go_at_call 5
  refine (kC _).mono ?_
  rintro e w2 ⟨rfl, hb2⟩
  have qE := qE.below hb2
  have hB := hB.trans (hb2.mono hB.size)
  have htW := htW.on hb2
  go_wp2_with fail
  go_at_call 4
  refine (kS _).mono ?_
  rintro e w3 ⟨rfl, hb3⟩
  have qE := qE.below hb3
  have hB := hB.trans (hb3.mono hB.size)
  have htW := htW.on hb3
  clear y0 y1 y2 y3 y4
  have y0 : w3.cell? ⟨bE, 0, none⟩ = some (.int .i64 k) := qE.at rfl
  have y1 : w3.cell? ⟨bE, 1, none⟩ = some (.int .i64 h) := qE.at rfl
  have y2 : w3.cell? ⟨bE, 2, none⟩ = some (.int .i64 p) := qE.at rfl
  have y3 : w3.cell? ⟨bE, 3, none⟩ = some (.int .i64 q) := qE.at rfl
  have y4 : w3.cell? ⟨bE, 4, none⟩ = some (.int .i64 v) := qE.at rfl
  go_wp2_with fail
  go_at_call 5
  refine (kC _).mono ?_
  rintro e w4 ⟨rfl, hb4⟩
  have hB := hB.trans (hb4.mono hB.size)
  have htW := htW.on hb4
  go_wp2_with fail
  go_at_call 6
  refine (kI _ htW).mono ?_
  rintro e w5 ⟨rfl, hb5⟩
  have hB := hB.trans (hb5.mono hB.size)
  go_wp2
  go_ret
  exact ⟨rfl, hB⟩
end Go.Proofs.YtpemjlmopnndbaaDoor.FnExactEntryTextW
