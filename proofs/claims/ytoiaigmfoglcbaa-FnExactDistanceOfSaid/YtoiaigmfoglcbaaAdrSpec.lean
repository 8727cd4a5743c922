/-
  WithoutQuery, DistanceOf and BeforeAddress of the model.
  Conditions: none.
-/
import Derived.Test.YtoiaigmfoglcbaaAdrDist
namespace Go.Proofs.Ytoiaigmfoglcbaa.Adr
open Go Go.RowKit

set_option maxRecDepth 100000 in
theorem without_spec (h p q : Int) (w : World) :
    Calls Try.prog 10 #[(Value.agg #[Value.int IntKind.i64 (h), Value.int IntKind.i64 (p), Value.int IntKind.i64 (q)])] w fun e w' => e = .returned (Value.agg #[Value.int IntKind.i64 (h), Value.int IntKind.i64 (p), Value.int IntKind.i64 (0)]) ∧ Below w.heap.size w w' := by
  go_enter Try.func10, Try.ntmps10
  go_wp2
  refine bodyPost_ret (v := (Value.agg #[Value.int IntKind.i64 (h), Value.int IntKind.i64 (p), Value.int IntKind.i64 (0)])) (by simp [results, Try.results10, go_sem]) rfl ⟨rfl, ?_⟩
  repeat' (first | exact Below.refl _ _ | assumption | refine Below.setCell ?_ ?_ _ | refine Below.alloc ?_ ?_ _ | refine Adr.below_drewN ?_ _ | refine Below.drew ?_ | exact Nat.le_refl _ | omega | refine Adr.le_alloc ?_ | refine Adr.le_set ?_ | refine Adr.le_drewN ?_ | refine Adr.le_drew ?_)

set_option maxRecDepth 100000 in
theorem before_spec (h p q h' p' q' : Int) (w : World) :
    Calls Try.prog 15 #[(Value.agg #[Value.int IntKind.i64 (h), Value.int IntKind.i64 (p), Value.int IntKind.i64 (q)]), (Value.agg #[Value.int IntKind.i64 (h'), Value.int IntKind.i64 (p'), Value.int IntKind.i64 (q')])] w fun e w' => e = .returned (.bool (bef h p q h' p' q')) ∧ Below w.heap.size w w' := by
  have bB : Below w.heap.size w ((w.alloc (.cells #[.int .i64 h, .int .i64 p, .int .i64 q] 25)).alloc (.cells #[.int .i64 h', .int .i64 p', .int .i64 q'] 25)) := by repeat' (first | exact Below.refl _ _ | assumption | refine Below.setCell ?_ ?_ _ | refine Below.alloc ?_ ?_ _ | refine Adr.below_drewN ?_ _ | refine Below.drew ?_ | exact Nat.le_refl _ | omega | refine Adr.le_alloc ?_ | refine Adr.le_set ?_ | refine Adr.le_drewN ?_ | refine Adr.le_drew ?_)
  by_cases e0 : h = h'
  · subst e0
    by_cases e1 : p = p'
    · subst e1
      go_enter Try.func15, Try.ntmps15
      go_wp2
      go_ret
      exact ⟨by simp [bef], bB⟩
    · have n1 : (p != p') = true := by simpa using e1
      go_enter Try.func15, Try.ntmps15
      go_wp2
      go_ret
      exact ⟨by simp [bef, e1], bB⟩
  · have n1 : (h != h') = true := by simpa using e0
    go_enter Try.func15, Try.ntmps15
    go_wp2
    go_ret
    exact ⟨by simp [bef, e0], bB⟩

set_option maxHeartbeats 1000000 in
set_option maxRecDepth 100000 in
theorem dist_spec (h p q h' p' q' : Int) (w : World) :
    Calls Try.prog 13 #[(Value.agg #[Value.int IntKind.i64 (h), Value.int IntKind.i64 (p), Value.int IntKind.i64 (q)]), (Value.agg #[Value.int IntKind.i64 (h'), Value.int IntKind.i64 (p'), Value.int IntKind.i64 (q')])] w fun e w' => e = .returned (.int .i64 (dist h p q h' p' q')) ∧ Below w.heap.size w w' := by
  have bx := (box_new w 25 h p q).alloc (.cells #[.int .i64 h', .int .i64 p', .int .i64 q'] 25)
  have bz := box_new (w.alloc (.cells #[.int .i64 h, .int .i64 p, .int .i64 q] 25)) 25 h' p' q'
  rw [size_alloc] at bz
  have bB : Below w.heap.size w ((w.alloc (.cells #[.int .i64 h, .int .i64 p, .int .i64 q] 25)).alloc (.cells #[.int .i64 h', .int .i64 p', .int .i64 q'] 25)) := by repeat' (first | exact Below.refl _ _ | assumption | refine Below.setCell ?_ ?_ _ | refine Below.alloc ?_ ?_ _ | refine Adr.below_drewN ?_ _ | refine Below.drew ?_ | exact Nat.le_refl _ | omega | refine Adr.le_alloc ?_ | refine Adr.le_set ?_ | refine Adr.le_drewN ?_ | refine Adr.le_drew ?_)
  by_cases e0 : h = h'
  · subst e0
    by_cases e1 : p = p'
    · subst e1
      by_cases e2 : q = q'
      · subst e2
        go_enter Try.func13, Try.ntmps13
        go_wp2
        go_ret
        exact ⟨by simp [dist, eqn], bB⟩
      · have n2 : (q = q') = False := by simpa using e2
        obtain ⟨c0, c1, c2⟩ := bx
        obtain ⟨d0, d1, d2⟩ := bz
        go_enter Try.func13, Try.ntmps13
        go_wp2
        go_region_held3 (fun w' => w'.cell? ⟨w.heap.size, 0, none⟩ = some (.int .i64 h) ∧ w'.cell? ⟨w.heap.size, 1, none⟩ = some (.int .i64 p) ∧ w'.cell? ⟨w.heap.size, 2, none⟩ = some (.int .i64 q) ∧ w'.cell? ⟨w.heap.size + 1, 0, none⟩ = some (.int .i64 h) ∧ w'.cell? ⟨w.heap.size + 1, 1, none⟩ = some (.int .i64 p) ∧ w'.cell? ⟨w.heap.size + 1, 2, none⟩ = some (.int .i64 q'))
          (first | exact s3 | assumption | go_keep)
          (first | (go_at_call 10; refine (without_spec _ _ _ _).mono ?_; rintro e w3 ⟨rfl, hb3⟩; have s3 := six_below hb3 (by assumption); have bB : Below w.heap.size w w3 := (by first | exact bB.trans (hb3.mono bB.size) | exact bB.drew.trans (hb3.mono bB.size))))
        all_goals
          go_wp2
          go_ret
          exact ⟨by simp [dist, eqn, e2], bB⟩
    · have n1 : (p = p') = False := by simpa using e1
      obtain ⟨c0, c1, c2⟩ := bx
      obtain ⟨d0, d1, d2⟩ := bz
      go_enter Try.func13, Try.ntmps13
      go_wp2
      go_region_held3 (fun w' => w'.cell? ⟨w.heap.size, 0, none⟩ = some (.int .i64 h) ∧ w'.cell? ⟨w.heap.size, 1, none⟩ = some (.int .i64 p) ∧ w'.cell? ⟨w.heap.size, 2, none⟩ = some (.int .i64 q) ∧ w'.cell? ⟨w.heap.size + 1, 0, none⟩ = some (.int .i64 h) ∧ w'.cell? ⟨w.heap.size + 1, 1, none⟩ = some (.int .i64 p') ∧ w'.cell? ⟨w.heap.size + 1, 2, none⟩ = some (.int .i64 q'))
        (first | exact s3 | assumption | go_keep)
        (first | (go_at_call 10; refine (without_spec _ _ _ _).mono ?_; rintro e w3 ⟨rfl, hb3⟩; have s3 := six_below hb3 (by assumption); have bB : Below w.heap.size w w3 := (by first | exact bB.trans (hb3.mono bB.size) | exact bB.drew.trans (hb3.mono bB.size))))
      all_goals
        go_wp2
        go_ret
        exact ⟨by simp [dist, eqn, e1], bB⟩
  · have n0 : (h = h') = False := by simpa using e0
    obtain ⟨c0, c1, c2⟩ := bx
    obtain ⟨d0, d1, d2⟩ := bz
    go_enter Try.func13, Try.ntmps13
    go_wp2
    go_region_held3 (fun w' => w'.cell? ⟨w.heap.size, 0, none⟩ = some (.int .i64 h) ∧ w'.cell? ⟨w.heap.size, 1, none⟩ = some (.int .i64 p) ∧ w'.cell? ⟨w.heap.size, 2, none⟩ = some (.int .i64 q) ∧ w'.cell? ⟨w.heap.size + 1, 0, none⟩ = some (.int .i64 h') ∧ w'.cell? ⟨w.heap.size + 1, 1, none⟩ = some (.int .i64 p') ∧ w'.cell? ⟨w.heap.size + 1, 2, none⟩ = some (.int .i64 q'))
      (first | exact s3 | assumption | go_keep)
      (first | (go_at_call 10; refine (without_spec _ _ _ _).mono ?_; rintro e w3 ⟨rfl, hb3⟩; have s3 := six_below hb3 (by assumption); have bB : Below w.heap.size w w3 := (by first | exact bB.trans (hb3.mono bB.size) | exact bB.drew.trans (hb3.mono bB.size))))
    all_goals
      go_wp2
      go_ret
      exact ⟨by simp [dist, eqn, e0], bB⟩
end Go.Proofs.Ytoiaigmfoglcbaa.Adr
