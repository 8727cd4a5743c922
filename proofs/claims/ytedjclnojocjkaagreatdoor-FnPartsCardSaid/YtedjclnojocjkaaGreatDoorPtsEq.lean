/-
  The exact laws' helper at a slice of parts: the test for equality, of two that hold the same parts.
  Conditions: the parts lie in memory.
-/
import Derived.Test.YtedjclnojocjkaaGreatDoorPtsTo
import Derived.Test.YtedjclnojocjkaaGreatDoorLays
import Derived.Deep.RegionHeld3
namespace Go.Proofs.YtedjclnojocjkaaGreatDoor.Parts
open Go Go.RowKit Go.Proofs.YtedjclnojocjkaaGreatDoor.Mem Go.Proofs.YtedjclnojocjkaaGreatDoor.Adr Go.Proofs.YtedjclnojocjkaaGreatDoor.Res

theorem Cells7.all {w : World} {b o c : Nat} {P : Prt} {A : Option Addr} (h : Cells7 w b o P A c) : (w).cell? ⟨b, o, none⟩ = some (.int .i64 (P).d) ∧ (w).cell? ⟨b, o + 1, none⟩ = some (.int .i64 (P).k) ∧ (w).cell? ⟨b, o + 2, none⟩ = some (.slice (A) (P).zs.length (c)) ∧ (w).cell? ⟨b, o + 3, none⟩ = some (.int .i64 (P).h) ∧ (w).cell? ⟨b, o + 4, none⟩ = some (.int .i64 (P).p) ∧ (w).cell? ⟨b, o + 5, none⟩ = some (.int .i64 (P).q) ∧ (w).cell? ⟨b, o + 6, none⟩ = some (.int .i64 (P).u) := ⟨h.c0, h.c1, h.c2, h.c3, h.c4, h.c5, h.c6⟩
theorem Cells7.below {w w' : World} {b o c : Nat} {P : Prt} {A : Option Addr} (h : Cells7 w b o P A c) (hb : Below w.heap.size w w') : Cells7 w' b o P A c := h.keep (hb.block _ h.lt)
theorem both7 {w : World} {b1 o1 k1 b2 o2 k2 : Nat} {P Q : Prt} {A B : Option Addr} (h : Cells7 w b1 o1 P A k1) (g : Cells7 w b2 o2 Q B k2) : (w).cell? ⟨b1, o1, none⟩ = some (.int .i64 (P).d) ∧ (w).cell? ⟨b1, o1 + 1, none⟩ = some (.int .i64 (P).k) ∧ (w).cell? ⟨b1, o1 + 2, none⟩ = some (.slice (A) (P).zs.length (k1)) ∧ (w).cell? ⟨b1, o1 + 3, none⟩ = some (.int .i64 (P).h) ∧ (w).cell? ⟨b1, o1 + 4, none⟩ = some (.int .i64 (P).p) ∧ (w).cell? ⟨b1, o1 + 5, none⟩ = some (.int .i64 (P).q) ∧ (w).cell? ⟨b1, o1 + 6, none⟩ = some (.int .i64 (P).u) ∧ (w).cell? ⟨b2, o2, none⟩ = some (.int .i64 (Q).d) ∧ (w).cell? ⟨b2, o2 + 1, none⟩ = some (.int .i64 (Q).k) ∧ (w).cell? ⟨b2, o2 + 2, none⟩ = some (.slice (B) (Q).zs.length (k2)) ∧ (w).cell? ⟨b2, o2 + 3, none⟩ = some (.int .i64 (Q).h) ∧ (w).cell? ⟨b2, o2 + 4, none⟩ = some (.int .i64 (Q).p) ∧ (w).cell? ⟨b2, o2 + 5, none⟩ = some (.int .i64 (Q).q) ∧ (w).cell? ⟨b2, o2 + 6, none⟩ = some (.int .i64 (Q).u) :=
  ⟨h.c0, h.c1, h.c2, h.c3, h.c4, h.c5, h.c6, g.c0, g.c1, g.c2, g.c3, g.c4, g.c5, g.c6⟩

set_option maxHeartbeats 1600000 in
set_option maxRecDepth 100000 in
theorem eq_part (l1 h1 l2 h2 : Nat) (d k h p q u : Int) (w : World) (a b : Option Addr) (n c e : Nat) (zs : List Int) (ha : Row .i64 l1 h1 w a n zs) (hb : Row .i64 l2 h2 w b n zs) (hn : n ≤ 9223372036854775807) :
    Calls Tryz.prog 64 #[(Value.agg #[Value.int IntKind.i64 (d), Value.int IntKind.i64 (k), Value.slice (a) (n) (c), Value.int IntKind.i64 (h), Value.int IntKind.i64 (p), Value.int IntKind.i64 (q), Value.int IntKind.i64 (u)]), (Value.agg #[Value.int IntKind.i64 (d), Value.int IntKind.i64 (k), Value.slice (b) (n) (e), Value.int IntKind.i64 (h), Value.int IntKind.i64 (p), Value.int IntKind.i64 (q), Value.int IntKind.i64 (u)])] w fun x w' => x = .returned (.bool true) ∧ Below w.heap.size w w' := by
  obtain ⟨O1, hO1⟩ : ∃ O, O = Obj.cells #[Value.int .i64 d, .int .i64 k, .slice a n c, .int .i64 h, .int .i64 p, .int .i64 q, .int .i64 u] 62 (0, 0) := ⟨_, rfl⟩
  obtain ⟨O2, hO2⟩ : ∃ O, O = Obj.cells #[Value.int .i64 d, .int .i64 k, .slice b n e, .int .i64 h, .int .i64 p, .int .i64 q, .int .i64 u] 62 (0, 0) := ⟨_, rfl⟩
  have hB1 : Below w.heap.size w ((w.alloc O1).alloc O2) := by repeat' (first | exact Below.refl _ _ | assumption | refine Below.setCell ?_ ?_ _ | refine Below.alloc ?_ ?_ _ | refine Adr.below_drewN ?_ _ | refine Below.drew ?_ | exact Nat.le_refl _ | omega | (dsimp only; omega) | refine Adr.le_alloc ?_ | refine Adr.le_set ?_ | refine Adr.le_drewN ?_ | refine Adr.le_drew ?_)
  have qA : Sept 62 w.heap.size (.int .i64 d) (.int .i64 k) (.slice a n c) (.int .i64 h) (.int .i64 p) (.int .i64 q) (.int .i64 u) ((w.alloc O1).alloc O2) := by rw [hO1]; exact (Sept.new _ _ _ _ _ _ _ _ w).alloc _
  have qB : Sept 62 (w.heap.size + 1) (.int .i64 d) (.int .i64 k) (.slice b n e) (.int .i64 h) (.int .i64 p) (.int .i64 q) (.int .i64 u) ((w.alloc O1).alloc O2) := by have := Sept.new 62 (.int .i64 d) (.int .i64 k) (.slice b n e) (.int .i64 h) (.int .i64 p) (.int .i64 q) (.int .i64 u) (w.alloc O1); rw [size_alloc] at this; rw [hO2]; exact this
  have hE := eq_res l1 h1 l2 h2 k h p q ((w.alloc O1).alloc O2) a b n c e zs (ha.below hB1) (hb.below hB1) hn
  subst hO1 hO2
  obtain ⟨a0, a1, a2, a3, a4, a5, a6⟩ := qA.cells
  obtain ⟨b0, b1, b2, b3, b4, b5, b6⟩ := qB.cells
  go_enter Tryz.func64, Tryz.ntmps64
  go_wp2_with fail
  go_at_call 26
  refine hE.mono ?_
  rintro x w1 ⟨rfl, hb1⟩
  clear a0 a1 a2 a3 a4 a5 a6 b0 b1 b2 b3 b4 b5 b6 hE ha hb
  obtain ⟨a0, a1, a2, a3, a4, a5, a6⟩ := (qA.below hb1).cells
  obtain ⟨b0, b1, b2, b3, b4, b5, b6⟩ := (qB.below hb1).cells
  have hB2 := hB1.trans (hb1.mono hB1.size)
  go_wp2
  go_ret
  exact ⟨rfl, hB2⟩

set_option maxHeartbeats 1600000 in
set_option maxRecDepth 100000 in
theorem eq_parts (l1 h1 l2 h2 : Nat) (w : World) (a b : Option Addr) (n c d : Nat) (l : List Prt) (ha : PRow l1 h1 w a n l) (hb : PRow l2 h2 w b n l) (k1 : h1 ≤ w.heap.size) (k2 : h2 ≤ w.heap.size) (hn : n ≤ 9223372036854775807) :
    Calls Tryz.prog 25 #[.slice a n c, .slice b n d] w fun x w' => x = .returned (.bool true) ∧ Below w.heap.size w w' := by
  go_enter Tryz.func25, Tryz.ntmps25
  go_wp2
  go_loopw [5] (fun i wr => ∃ j : Nat, j ≤ n ∧ i = .int .i64 j ∧ Below w.heap.size w wr) (fun i _ => n - (intOf i).toNat)
  case atStart => exact ⟨0, Nat.zero_le _, rfl, Below.refl _ _⟩
  case round =>
    obtain ⟨j, hj, rfl, hbl⟩ := hrel
    by_cases hlt : j < n
    · obtain ⟨b1, o1, A1, c1, rfl, _, _, q1, r1, _⟩ := (ha.under hbl k1).at hlt
      obtain ⟨b2, o2, A2, c2, rfl, _, _, q2, r2, _⟩ := (hb.under hbl k2).at hlt
      have hE := eq_part l1 h1 l2 h2 (pt l j).d (pt l j).k (pt l j).h (pt l j).p (pt l j).q (pt l j).u wr.drew A1 A2 (pt l j).zs.length c1 c2 (pt l j).zs (r1.row.drewN 1) (r2.row.drewN 1) (by have := r1.le; have := r1.max; unfold maxLen at this; omega)
      have g1 := q1.all
      have g2 := q2.all
      have u1 : Cells7 wr.drew b1 (o1 + j * 7) (pt l j) A1 c1 := q1.keep rfl
      have u2 : Cells7 wr.drew b2 (o2 + j * 7) (pt l j) A2 c2 := q2.keep rfl
      clear r1 r2 ha hb
      obtain ⟨x0, x1, x2, x3, x4, x5, x6⟩ := g1
      obtain ⟨y0, y1, y2, y3, y4, y5, y6⟩ := g2
      go_wp2_with fail
      go_region_held3 (fun w' => (w').cell? ⟨b1, o1 + j * 7, none⟩ = some (.int .i64 (pt l j).d) ∧ (w').cell? ⟨b1, o1 + j * 7 + 1, none⟩ = some (.int .i64 (pt l j).k) ∧ (w').cell? ⟨b1, o1 + j * 7 + 2, none⟩ = some (.slice (A1) (pt l j).zs.length (c1)) ∧ (w').cell? ⟨b1, o1 + j * 7 + 3, none⟩ = some (.int .i64 (pt l j).h) ∧ (w').cell? ⟨b1, o1 + j * 7 + 4, none⟩ = some (.int .i64 (pt l j).p) ∧ (w').cell? ⟨b1, o1 + j * 7 + 5, none⟩ = some (.int .i64 (pt l j).q) ∧ (w').cell? ⟨b1, o1 + j * 7 + 6, none⟩ = some (.int .i64 (pt l j).u) ∧ (w').cell? ⟨b2, o2 + j * 7, none⟩ = some (.int .i64 (pt l j).d) ∧ (w').cell? ⟨b2, o2 + j * 7 + 1, none⟩ = some (.int .i64 (pt l j).k) ∧ (w').cell? ⟨b2, o2 + j * 7 + 2, none⟩ = some (.slice (A2) (pt l j).zs.length (c2)) ∧ (w').cell? ⟨b2, o2 + j * 7 + 3, none⟩ = some (.int .i64 (pt l j).h) ∧ (w').cell? ⟨b2, o2 + j * 7 + 4, none⟩ = some (.int .i64 (pt l j).p) ∧ (w').cell? ⟨b2, o2 + j * 7 + 5, none⟩ = some (.int .i64 (pt l j).q) ∧ (w').cell? ⟨b2, o2 + j * 7 + 6, none⟩ = some (.int .i64 (pt l j).u))
        (first | exact s9 | assumption | go_keep)
        (first | (go_at_call 64; refine hE.mono ?_; rintro e w9 ⟨rfl, hb9⟩; have s9 := both7 (u1.below hb9) (u2.below hb9)))
      all_goals
        go_wp2
        go_roundw
        case rel => exact ⟨j + 1, by omega, by go_num, hbl.drew.trans (hb9.mono hbl.drew.size)⟩
        case measure => simp [intOf]; omega
    · have hd : decide ((j : Int) < (n : Int)) = false := by simp; omega
      go_wp2
      go_ret
      exact ⟨rfl, hbl⟩
end Go.Proofs.YtedjclnojocjkaaGreatDoor.Parts
