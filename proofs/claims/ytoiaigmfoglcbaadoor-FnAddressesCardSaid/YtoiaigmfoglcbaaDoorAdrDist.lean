/-
  WithoutQuery, DistanceOf and BeforeAddress of the program: by how many parts are equal ahead of the first that differs.
  Conditions: none.
-/
import Derived.Test.YtoiaigmfoglcbaaDoorAdr
import Derived.Deep.QuietTactic
import Derived.BigQuiet
import Derived.Deep.RegionHeld3
namespace Go.Proofs.YtoiaigmfoglcbaaDoor.Adr
open Go Go.RowKit

/-- How many parts of two addresses are equal ahead of the first that differs. -/
def eqn (h p q h' p' q' : Int) : Int := if h = h' then (if p = p' then (if q = q' then 3 else 2) else 1) else 0
/-- The distance of two addresses, and their order. -/
def dist (h p q h' p' q' : Int) : Int := 3 - eqn h p q h' p' q'
def bef (h p q h' p' q' : Int) : Bool := if h = h' then (if p = p' then decide (q < q') else decide (p < p')) else decide (h < h')
theorem eqn_bef (h p q h' p' q' : Int) : (eqn h p q h' p' q' = 3 ∧ bef h p q h' p' q' = false) ∨ (eqn h p q h' p' q' = 2 ∧ bef h p q h' p' q' = decide (q < q')) ∨ (eqn h p q h' p' q' = 1 ∧ bef h p q h' p' q' = decide (p < p')) ∨ (eqn h p q h' p' q' = 0 ∧ bef h p q h' p' q' = decide (h < h')) := by
  unfold eqn bef
  by_cases e0 : h = h'
  · by_cases e1 : p = p'
    · by_cases e2 : q = q'
      · exact .inl ⟨by simp [e0, e1, e2], by simp [e0, e1, e2]⟩
      · exact .inr (.inl ⟨by simp [e0, e1, e2], by simp [e0, e1]⟩)
    · exact .inr (.inr (.inl ⟨by simp [e0, e1], by simp [e0, e1]⟩))
  · exact .inr (.inr (.inr ⟨by simp [e0], by simp [e0]⟩))
theorem eqn_range (h p q h' p' q' : Int) : 0 ≤ eqn h p q h' p' q' ∧ eqn h p q h' p' q' ≤ 3 := by unfold eqn; split <;> (try split) <;> (try split) <;> omega

set_option maxRecDepth 100000 in
theorem without_impl (h p q : Int) (w : World) :
    Calls Tryd.prog 14 #[(Value.agg #[Value.int IntKind.i64 (h), Value.int IntKind.i64 (p), Value.int IntKind.i64 (q)])] w fun e w' => e = .returned (Value.agg #[Value.int IntKind.i64 (h), Value.int IntKind.i64 (p), Value.int IntKind.i64 (0)]) ∧ Below w.heap.size w w' := by
  go_enter Tryd.func14, Tryd.ntmps14
  go_wp2
  refine bodyPost_ret (v := (Value.agg #[Value.int IntKind.i64 (h), Value.int IntKind.i64 (p), Value.int IntKind.i64 (0)])) (by simp [results, Tryd.results14, go_sem]) rfl ⟨rfl, ?_⟩
  repeat' (first | exact Below.refl _ _ | assumption | refine Below.setCell ?_ ?_ _ | refine Below.alloc ?_ ?_ _ | refine Adr.below_drewN ?_ _ | refine Below.drew ?_ | exact Nat.le_refl _ | omega | refine Adr.le_alloc ?_ | refine Adr.le_set ?_ | refine Adr.le_drewN ?_ | refine Adr.le_drew ?_)

set_option maxRecDepth 100000 in
theorem parts_of (h p q : Int) (w : World) :
    Calls Tryd.prog 30 #[(Value.agg #[Value.int IntKind.i64 (h), Value.int IntKind.i64 (p), Value.int IntKind.i64 (q)])] w fun e w' => e = .returned (Value.agg #[Value.int IntKind.i64 (h), Value.int IntKind.i64 (p), Value.int IntKind.i64 (q)]) ∧ Below w.heap.size w w' := by
  go_enter Tryd.func30, Tryd.ntmps30
  go_wp2
  refine bodyPost_ret (v := (Value.agg #[Value.int IntKind.i64 (h), Value.int IntKind.i64 (p), Value.int IntKind.i64 (q)])) (by simp [results, Tryd.results30, go_sem]) rfl ⟨rfl, ?_⟩
  repeat' (first | exact Below.refl _ _ | assumption | refine Below.setCell ?_ ?_ _ | refine Below.alloc ?_ ?_ _ | refine Adr.below_drewN ?_ _ | refine Below.drew ?_ | exact Nat.le_refl _ | omega | refine Adr.le_alloc ?_ | refine Adr.le_set ?_ | refine Adr.le_drewN ?_ | refine Adr.le_drew ?_)

theorem six_below {W W' : World} {b c : Nat} {x0 x1 x2 y0 y1 y2 : Value} (hb : Below W.heap.size W W') (k : W.cell? ⟨b, 0, none⟩ = some x0 ∧ W.cell? ⟨b, 1, none⟩ = some x1 ∧ W.cell? ⟨b, 2, none⟩ = some x2 ∧ W.cell? ⟨c, 0, none⟩ = some y0 ∧ W.cell? ⟨c, 1, none⟩ = some y1 ∧ W.cell? ⟨c, 2, none⟩ = some y2) :
    W'.cell? ⟨b, 0, none⟩ = some x0 ∧ W'.cell? ⟨b, 1, none⟩ = some x1 ∧ W'.cell? ⟨b, 2, none⟩ = some x2 ∧ W'.cell? ⟨c, 0, none⟩ = some y0 ∧ W'.cell? ⟨c, 1, none⟩ = some y1 ∧ W'.cell? ⟨c, 2, none⟩ = some y2 :=
  ⟨cell_below k.1 hb, cell_below k.2.1 hb, cell_below k.2.2.1 hb, cell_below k.2.2.2.1 hb, cell_below k.2.2.2.2.1 hb, cell_below k.2.2.2.2.2 hb⟩
theorem ix0 (h p q : Int) (w : World) : (Instr.index 44 (Value.agg #[Value.int IntKind.i64 (h), Value.int IntKind.i64 (p), Value.int IntKind.i64 (q)]) (.int .i64 0)).run Tryd.prog w = .ok (.int .i64 h) w := by kernel_rfl
theorem ix1 (h p q : Int) (w : World) : (Instr.index 44 (Value.agg #[Value.int IntKind.i64 (h), Value.int IntKind.i64 (p), Value.int IntKind.i64 (q)]) (.int .i64 1)).run Tryd.prog w = .ok (.int .i64 p) w := by kernel_rfl
theorem ix2 (h p q : Int) (w : World) : (Instr.index 44 (Value.agg #[Value.int IntKind.i64 (h), Value.int IntKind.i64 (p), Value.int IntKind.i64 (q)]) (.int .i64 2)).run Tryd.prog w = .ok (.int .i64 q) w := by kernel_rfl

set_option maxRecDepth 100000 in
theorem equal_parts (h p q h' p' q' : Int) (w : World) :
    Calls Tryd.prog 29 #[(Value.agg #[Value.int IntKind.i64 (h), Value.int IntKind.i64 (p), Value.int IntKind.i64 (q)]), (Value.agg #[Value.int IntKind.i64 (h'), Value.int IntKind.i64 (p'), Value.int IntKind.i64 (q')])] w fun e w' => e = .returned (.int .i64 (eqn h p q h' p' q')) ∧ Below w.heap.size w w' := by
  have bx := (box_new w 25 h p q).alloc (.cells #[.int .i64 h', .int .i64 p', .int .i64 q'] 25)
  have bB : Below w.heap.size w ((w.alloc (.cells #[.int .i64 h, .int .i64 p, .int .i64 q] 25)).alloc (.cells #[.int .i64 h', .int .i64 p', .int .i64 q'] 25)) := by repeat' (first | exact Below.refl _ _ | assumption | refine Below.setCell ?_ ?_ _ | refine Below.alloc ?_ ?_ _ | refine Adr.below_drewN ?_ _ | refine Below.drew ?_ | exact Nat.le_refl _ | omega | refine Adr.le_alloc ?_ | refine Adr.le_set ?_ | refine Adr.le_drewN ?_ | refine Adr.le_drew ?_)
  go_enter Tryd.func29, Tryd.ntmps29
  go_wp2_with fail
  go_at_call 30
  refine (parts_of h' p' q' _).mono ?_
  rintro e w1 ⟨rfl, hb1⟩
  obtain ⟨c0, c1, c2⟩ := (bx.below hb1).alloc (Obj.cells #[Value.int IntKind.i64 h', Value.int IntKind.i64 p', Value.int IntKind.i64 q'] 44)
  have by1 := box_new w1 44 h' p' q'
  have hB1 := bB.trans (hb1.mono bB.size)
  go_wp2_with fail
  go_at_call 30
  refine (parts_of h p q _).mono ?_
  rintro e w2 ⟨rfl, hb2⟩
  obtain ⟨d0, d1, d2⟩ := by1.below hb2
  have hB2 : Below w.heap.size w w2 := hB1.trans (((Below.refl _ _).alloc (Nat.le_refl _) _).trans (hb2.mono (by rw [size_alloc]; omega)) |>.mono hB1.size)
  have i0 := ix0 h p q
  have i1 := ix1 h p q
  have i2 := ix2 h p q
  clear bx bB by1 c0 c1 c2 hb1 hb2 hB1
  by_cases e0 : h = h'
  · subst e0
    by_cases e1 : p = p'
    · subst e1
      by_cases e2 : q = q'
      · subst e2
        go_wp2
        refine wp_loop_rounds 4 ?_
        rw [rounds_succ]
        go_wp2
        rw [rounds_succ]
        go_wp2
        rw [rounds_succ]
        go_wp2
        rw [rounds_succ]
        go_wp2
        go_ret
        exact ⟨by simp [eqn], hB2⟩
      · have n2 : (q != q') = true := by simpa using e2
        go_wp2
        refine wp_loop_rounds 4 ?_
        rw [rounds_succ]
        go_wp2
        rw [rounds_succ]
        go_wp2
        rw [rounds_succ]
        go_wp2
        go_ret
        exact ⟨by simp [eqn, e2], hB2⟩
    · have n1 : (p != p') = true := by simpa using e1
      go_wp2
      refine wp_loop_rounds 4 ?_
      rw [rounds_succ]
      go_wp2
      rw [rounds_succ]
      go_wp2
      go_ret
      exact ⟨by simp [eqn, e1], hB2⟩
  · have n0 : (h != h') = true := by simpa using e0
    go_wp2
    refine wp_loop_rounds 4 ?_
    rw [rounds_succ]
    go_wp2
    go_ret
    exact ⟨by simp [eqn, e0], hB2⟩

set_option maxRecDepth 100000 in
theorem dist_impl (h p q h' p' q' : Int) (w : World) :
    Calls Tryd.prog 13 #[(Value.agg #[Value.int IntKind.i64 (h), Value.int IntKind.i64 (p), Value.int IntKind.i64 (q)]), (Value.agg #[Value.int IntKind.i64 (h'), Value.int IntKind.i64 (p'), Value.int IntKind.i64 (q')])] w fun e w' => e = .returned (.int .i64 (dist h p q h' p' q')) ∧ Below w.heap.size w w' := by
  obtain ⟨r0, r1⟩ := eqn_range h p q h' p' q'
  have bB : Below w.heap.size w ((w.alloc (.cells #[.int .i64 h, .int .i64 p, .int .i64 q] 25)).alloc (.cells #[.int .i64 h', .int .i64 p', .int .i64 q'] 25)) := by repeat' (first | exact Below.refl _ _ | assumption | refine Below.setCell ?_ ?_ _ | refine Below.alloc ?_ ?_ _ | refine Adr.below_drewN ?_ _ | refine Below.drew ?_ | exact Nat.le_refl _ | omega | refine Adr.le_alloc ?_ | refine Adr.le_set ?_ | refine Adr.le_drewN ?_ | refine Adr.le_drew ?_)
  go_enter Tryd.func13, Tryd.ntmps13
  go_wp2_with fail
  go_at_call 29
  refine (equal_parts h p q h' p' q' _).mono ?_
  rintro e w1 ⟨rfl, hb1⟩
  go_wp2
  go_ret
  exact ⟨rfl, bB.trans (hb1.mono bB.size)⟩

set_option maxHeartbeats 1000000 in
set_option maxRecDepth 100000 in
theorem before_impl (h p q h' p' q' : Int) (w : World) :
    Calls Tryd.prog 15 #[(Value.agg #[Value.int IntKind.i64 (h), Value.int IntKind.i64 (p), Value.int IntKind.i64 (q)]), (Value.agg #[Value.int IntKind.i64 (h'), Value.int IntKind.i64 (p'), Value.int IntKind.i64 (q')])] w fun e w' => e = .returned (.bool (bef h p q h' p' q')) ∧ Below w.heap.size w w' := by
  have bx := (box_new w 25 h p q).alloc (.cells #[.int .i64 h', .int .i64 p', .int .i64 q'] 25)
  have bz := box_new (w.alloc (.cells #[.int .i64 h, .int .i64 p, .int .i64 q] 25)) 25 h' p' q'
  rw [size_alloc] at bz
  have bB : Below w.heap.size w ((w.alloc (.cells #[.int .i64 h, .int .i64 p, .int .i64 q] 25)).alloc (.cells #[.int .i64 h', .int .i64 p', .int .i64 q'] 25)) := by repeat' (first | exact Below.refl _ _ | assumption | refine Below.setCell ?_ ?_ _ | refine Below.alloc ?_ ?_ _ | refine Adr.below_drewN ?_ _ | refine Below.drew ?_ | exact Nat.le_refl _ | omega | refine Adr.le_alloc ?_ | refine Adr.le_set ?_ | refine Adr.le_drewN ?_ | refine Adr.le_drew ?_)
  have i0 := ix0 h p q
  have i1 := ix1 h p q
  have i2 := ix2 h p q
  have j0 := ix0 h' p' q'
  have j1 := ix1 h' p' q'
  have j2 := ix2 h' p' q'
  go_enter Tryd.func15, Tryd.ntmps15
  go_wp2_with fail
  go_at_call 29
  refine (equal_parts h p q h' p' q' _).mono ?_
  rintro e w1 ⟨rfl, hb1⟩
  have bx1 := bx.below hb1
  have bz1 := bz.below hb1
  have hB1 := bB.trans (hb1.mono bB.size)
  clear bx bz bB hb1
  obtain ⟨c0, c1, c2⟩ := bx1
  obtain ⟨d0, d1, d2⟩ := bz1
  have n0 := World.new_ne w1 ⟨w.heap.size, 0, none⟩ c0
  have n1 := World.new_ne w1 ⟨w.heap.size + 1, 0, none⟩ d0
  rcases eqn_bef h p q h' p' q' with ⟨e3, eb⟩ | ⟨e3, eb⟩ | ⟨e3, eb⟩ | ⟨e3, eb⟩
  · rw [e3]
    go_wp2
    go_quiet (fail)
    go_wp2
    go_ret
    exact ⟨by rw [eb]; rfl, below_drewN hB1 _⟩
  · rw [e3]
    go_wp2
    go_region_held3 (fun w' => w'.cell? ⟨w.heap.size, 0, none⟩ = some (.int .i64 h) ∧ w'.cell? ⟨w.heap.size, 1, none⟩ = some (.int .i64 p) ∧ w'.cell? ⟨w.heap.size, 2, none⟩ = some (.int .i64 q) ∧ w'.cell? ⟨w.heap.size + 1, 0, none⟩ = some (.int .i64 h') ∧ w'.cell? ⟨w.heap.size + 1, 1, none⟩ = some (.int .i64 p') ∧ w'.cell? ⟨w.heap.size + 1, 2, none⟩ = some (.int .i64 q'))
      (first | exact s3 | assumption | go_keep)
      (first | (go_at_call 30; refine (parts_of _ _ _ _).mono ?_; rintro e w3 ⟨rfl, hb3⟩; have s3 := six_below hb3 (by assumption); have hB1 : Below w.heap.size w w3 := (by first | exact hB1.trans (hb3.mono hB1.size) | exact hB1.drew.trans (hb3.mono hB1.size))))
    all_goals
      go_wp2
      go_ret
      exact ⟨by rw [eb]; rfl, hB1⟩
  · rw [e3]
    go_wp2
    go_region_held3 (fun w' => w'.cell? ⟨w.heap.size, 0, none⟩ = some (.int .i64 h) ∧ w'.cell? ⟨w.heap.size, 1, none⟩ = some (.int .i64 p) ∧ w'.cell? ⟨w.heap.size, 2, none⟩ = some (.int .i64 q) ∧ w'.cell? ⟨w.heap.size + 1, 0, none⟩ = some (.int .i64 h') ∧ w'.cell? ⟨w.heap.size + 1, 1, none⟩ = some (.int .i64 p') ∧ w'.cell? ⟨w.heap.size + 1, 2, none⟩ = some (.int .i64 q'))
      (first | exact s3 | assumption | go_keep)
      (first | (go_at_call 30; refine (parts_of _ _ _ _).mono ?_; rintro e w3 ⟨rfl, hb3⟩; have s3 := six_below hb3 (by assumption); have hB1 : Below w.heap.size w w3 := (by first | exact hB1.trans (hb3.mono hB1.size) | exact hB1.drew.trans (hb3.mono hB1.size))))
    all_goals
      go_wp2
      go_ret
      exact ⟨by rw [eb]; rfl, hB1⟩
  · rw [e3]
    go_wp2
    go_region_held3 (fun w' => w'.cell? ⟨w.heap.size, 0, none⟩ = some (.int .i64 h) ∧ w'.cell? ⟨w.heap.size, 1, none⟩ = some (.int .i64 p) ∧ w'.cell? ⟨w.heap.size, 2, none⟩ = some (.int .i64 q) ∧ w'.cell? ⟨w.heap.size + 1, 0, none⟩ = some (.int .i64 h') ∧ w'.cell? ⟨w.heap.size + 1, 1, none⟩ = some (.int .i64 p') ∧ w'.cell? ⟨w.heap.size + 1, 2, none⟩ = some (.int .i64 q'))
      (first | exact s3 | assumption | go_keep)
      (first | (go_at_call 30; refine (parts_of _ _ _ _).mono ?_; rintro e w3 ⟨rfl, hb3⟩; have s3 := six_below hb3 (by assumption); have hB1 : Below w.heap.size w w3 := (by first | exact hB1.trans (hb3.mono hB1.size) | exact hB1.drew.trans (hb3.mono hB1.size))))
    all_goals
      go_wp2
      go_ret
      exact ⟨by rw [eb]; rfl, hB1⟩
end Go.Proofs.YtoiaigmfoglcbaaDoor.Adr
