/-
  The law FnExactBeforeAddress returns true, and leaves what was there as it was.
  Conditions: none.
-/
import Derived.Test.YtoiaigmfoglcbaaAdrSpec
namespace Go.Proofs.Ytoiaigmfoglcbaa.FnExactBeforeAddressW
open Go Go.RowKit Go.Proofs.Ytoiaigmfoglcbaa.Adr

set_option maxHeartbeats 2000000 in
set_option maxRecDepth 100000 in
theorem law_walk (h p q h' p' q' : Int) (w : World) :
    Calls Try.prog 6 #[(Value.agg #[Value.int IntKind.i64 (h), Value.int IntKind.i64 (p), Value.int IntKind.i64 (q)]), (Value.agg #[Value.int IntKind.i64 (h'), Value.int IntKind.i64 (p'), Value.int IntKind.i64 (q')])] w fun e w' => e = .returned (.bool true) ∧ Below w.heap.size w w' := by
  have bx := (box_new w 23 h p q).alloc (.cells #[.int .i64 h', .int .i64 p', .int .i64 q'] 23)
  have bz := box_new (w.alloc (.cells #[.int .i64 h, .int .i64 p, .int .i64 q] 23)) 23 h' p' q'
  rw [size_alloc] at bz
  have bB : Below w.heap.size w ((w.alloc (.cells #[.int .i64 h, .int .i64 p, .int .i64 q] 23)).alloc (.cells #[.int .i64 h', .int .i64 p', .int .i64 q'] 23)) := by repeat' (first | exact Below.refl _ _ | assumption | refine Below.setCell ?_ ?_ _ | refine Below.alloc ?_ ?_ _ | refine Adr.below_drewN ?_ _ | refine Below.drew ?_ | exact Nat.le_refl _ | omega | refine Adr.le_alloc ?_ | refine Adr.le_set ?_ | refine Adr.le_drewN ?_ | refine Adr.le_drew ?_)
  obtain ⟨c0, c1, c2⟩ := bx
  obtain ⟨d0, d1, d2⟩ := bz
  go_enter Try.func6, Try.ntmps6
  go_wp2
  go_region_held3 (fun w' => w'.cell? ⟨w.heap.size, 0, none⟩ = some (.int .i64 h) ∧ w'.cell? ⟨w.heap.size, 1, none⟩ = some (.int .i64 p) ∧ w'.cell? ⟨w.heap.size, 2, none⟩ = some (.int .i64 q) ∧ w'.cell? ⟨w.heap.size + 1, 0, none⟩ = some (.int .i64 h') ∧ w'.cell? ⟨w.heap.size + 1, 1, none⟩ = some (.int .i64 p') ∧ w'.cell? ⟨w.heap.size + 1, 2, none⟩ = some (.int .i64 q'))
    (first | exact s3 | assumption | go_keep)
    (first
    | (go_at_call 8; refine (to_addr _ _ _ _).mono ?_; rintro e w3 ⟨rfl, hb3⟩; have s3 := six_below hb3 (by assumption); have bB : Below w.heap.size w w3 := (by first | exact bB.trans (hb3.mono bB.size) | exact bB.drew.trans (hb3.mono bB.size)))
    | (go_at_call 15; refine (before_spec _ _ _ _ _ _ _).mono ?_; rintro e w3 ⟨rfl, hb3⟩; have s3 := six_below hb3 (by assumption); have bB : Below w.heap.size w w3 := (by first | exact bB.trans (hb3.mono bB.size) | exact bB.drew.trans (hb3.mono bB.size))))
  all_goals
    obtain ⟨c0, c1, c2, d0, d1, d2⟩ := s3
    go_wp2_with fail
    go_region_held3 (fun w' => w'.cell? ⟨w.heap.size, 0, none⟩ = some (.int .i64 h) ∧ w'.cell? ⟨w.heap.size, 1, none⟩ = some (.int .i64 p) ∧ w'.cell? ⟨w.heap.size, 2, none⟩ = some (.int .i64 q) ∧ w'.cell? ⟨w.heap.size + 1, 0, none⟩ = some (.int .i64 h') ∧ w'.cell? ⟨w.heap.size + 1, 1, none⟩ = some (.int .i64 p') ∧ w'.cell? ⟨w.heap.size + 1, 2, none⟩ = some (.int .i64 q'))
      (first | exact s3 | assumption | go_keep)
      (first
      | (go_at_call 8; refine (to_addr _ _ _ _).mono ?_; rintro e w3 ⟨rfl, hb3⟩; have s3 := six_below hb3 (by assumption); have bB : Below w.heap.size w w3 := (by first | exact bB.trans (hb3.mono bB.size) | exact bB.drew.trans (hb3.mono bB.size)))
      | (go_at_call 16; refine (before_impl _ _ _ _ _ _ _).mono ?_; rintro e w3 ⟨rfl, hb3⟩; have s3 := six_below hb3 (by assumption); have bB : Below w.heap.size w w3 := (by first | exact bB.trans (hb3.mono bB.size) | exact bB.drew.trans (hb3.mono bB.size))))
    all_goals
      go_wp2
      go_ret
      exact ⟨rfl, bB⟩
end Go.Proofs.Ytoiaigmfoglcbaa.FnExactBeforeAddressW
