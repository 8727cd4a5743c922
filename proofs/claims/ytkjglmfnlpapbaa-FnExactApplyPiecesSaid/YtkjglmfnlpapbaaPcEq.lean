/-
  The exact laws' helper at a slice of pieces: the test for equality, of two that hold the same pieces.
  Conditions: the pieces lie in memory.
-/
import Derived.Test.YtkjglmfnlpapbaaPcTo
import Derived.Test.YtkjglmfnlpapbaaPcbuf
import Derived.Deep.RegionHeld3
namespace Go.Proofs.Ytkjglmfnlpapbaa.Pieces
open Go Go.RowKit Go.Proofs.Ytkjglmfnlpapbaa.Mem Go.Proofs.Ytkjglmfnlpapbaa.Adr Go.Proofs.Ytkjglmfnlpapbaa.Res

theorem Cells3.all {w : World} {b o c : Nat} {P : Pc} {A : Option Addr} (h : Cells3 w b o P A c) : (w).cell? ⟨b, o, none⟩ = some (.int .i64 (P).f) ∧ (w).cell? ⟨b, o + 1, none⟩ = some (.int .i64 (P).m) ∧ (w).cell? ⟨b, o + 2, none⟩ = some (.slice (A) (P).zs.length (c)) := ⟨h.c0, h.c1, h.c2⟩
theorem Cells3.below {w w' : World} {b o c : Nat} {P : Pc} {A : Option Addr} (h : Cells3 w b o P A c) (hb : Below w.heap.size w w') : Cells3 w' b o P A c := h.keep (hb.block _ h.lt)
theorem both3 {w : World} {b1 o1 k1 b2 o2 k2 : Nat} {P Q : Pc} {A B : Option Addr} (h : Cells3 w b1 o1 P A k1) (g : Cells3 w b2 o2 Q B k2) : (w).cell? ⟨b1, o1, none⟩ = some (.int .i64 (P).f) ∧ (w).cell? ⟨b1, o1 + 1, none⟩ = some (.int .i64 (P).m) ∧ (w).cell? ⟨b1, o1 + 2, none⟩ = some (.slice (A) (P).zs.length (k1)) ∧ (w).cell? ⟨b2, o2, none⟩ = some (.int .i64 (Q).f) ∧ (w).cell? ⟨b2, o2 + 1, none⟩ = some (.int .i64 (Q).m) ∧ (w).cell? ⟨b2, o2 + 2, none⟩ = some (.slice (B) (Q).zs.length (k2)) :=
  ⟨h.c0, h.c1, h.c2, g.c0, g.c1, g.c2⟩

set_option maxHeartbeats 1600000 in
set_option maxRecDepth 100000 in
theorem eq_piece (l1 h1 l2 h2 : Nat) (f m : Int) (w : World) (a b : Option Addr) (n c e : Nat) (zs : List Int) (ha : Row .i64 l1 h1 w a n zs) (hb : Row .i64 l2 h2 w b n zs) (hn : n ≤ 9223372036854775807) :
    Calls Try.prog 36 #[(Value.agg #[Value.int IntKind.i64 (f), Value.int IntKind.i64 (m), Value.slice (a) (n) (c)]), (Value.agg #[Value.int IntKind.i64 (f), Value.int IntKind.i64 (m), Value.slice (b) (n) (e)])] w fun x w' => x = .returned (.bool true) ∧ Below w.heap.size w w' := by
  obtain ⟨O1, hO1⟩ : ∃ O, O = Obj.cells #[Value.int .i64 f, .int .i64 m, .slice a n c] 36 (0, 0) := ⟨_, rfl⟩
  obtain ⟨O2, hO2⟩ : ∃ O, O = Obj.cells #[Value.int .i64 f, .int .i64 m, .slice b n e] 36 (0, 0) := ⟨_, rfl⟩
  have hB1 : Below w.heap.size w ((w.alloc O1).alloc O2) := by repeat' (first | exact Below.refl _ _ | assumption | refine Below.setCell ?_ ?_ _ | refine Below.alloc ?_ ?_ _ | refine Adr.below_drewN ?_ _ | refine Below.drew ?_ | exact Nat.le_refl _ | omega | (dsimp only; omega) | refine Adr.le_alloc ?_ | refine Adr.le_set ?_ | refine Adr.le_drewN ?_ | refine Adr.le_drew ?_)
  have qA : Trio 36 w.heap.size (.int .i64 f) (.int .i64 m) (.slice a n c) ((w.alloc O1).alloc O2) := by rw [hO1]; exact (Trio.new _ _ _ _ w).alloc _
  have qB : Trio 36 (w.heap.size + 1) (.int .i64 f) (.int .i64 m) (.slice b n e) ((w.alloc O1).alloc O2) := by have := Trio.new 36 (.int .i64 f) (.int .i64 m) (.slice b n e) (w.alloc O1); rw [size_alloc] at this; rw [hO2]; exact this
  have hE := Nts.eq_same l1 h1 l2 h2 ((w.alloc O1).alloc O2) a b n c e zs (ha.below hB1) (hb.below hB1) hn
  subst hO1 hO2
  obtain ⟨a0, a1, a2⟩ := qA.cells
  obtain ⟨b0, b1, b2⟩ := qB.cells
  go_enter Try.func36, Try.ntmps36
  go_wp2_with fail
  go_at_call 19
  refine hE.mono ?_
  rintro x w1 ⟨rfl, m1, rfl⟩
  go_wp2
  go_ret
  exact ⟨rfl, Mem.below_drewN hB1 _⟩

set_option maxHeartbeats 1600000 in
set_option maxRecDepth 100000 in
theorem eq_pieces (l1 h1 l2 h2 : Nat) (w : World) (a b : Option Addr) (n c d : Nat) (l : List Pc) (ha : CRow l1 h1 w a n l) (hb : CRow l2 h2 w b n l) (k1 : h1 ≤ w.heap.size) (k2 : h2 ≤ w.heap.size) (hn : n ≤ 9223372036854775807) :
    Calls Try.prog 18 #[.slice a n c, .slice b n d] w fun x w' => x = .returned (.bool true) ∧ Below w.heap.size w w' := by
  go_enter Try.func18, Try.ntmps18
  go_wp2
  go_loopw [5] (fun i wr => ∃ j : Nat, j ≤ n ∧ i = .int .i64 j ∧ Below w.heap.size w wr) (fun i _ => n - (intOf i).toNat)
  case atStart => exact ⟨0, Nat.zero_le _, rfl, Below.refl _ _⟩
  case round =>
    obtain ⟨j, hj, rfl, hbl⟩ := hrel
    by_cases hlt : j < n
    · obtain ⟨b1, o1, A1, c1, rfl, _, _, q1, r1, _⟩ := (ha.under hbl k1).at hlt
      obtain ⟨b2, o2, A2, c2, rfl, _, _, q2, r2, _⟩ := (hb.under hbl k2).at hlt
      have hE := eq_piece l1 h1 l2 h2 (pc l j).f (pc l j).m wr.drew A1 A2 (pc l j).zs.length c1 c2 (pc l j).zs (r1.row.drewN 1) (r2.row.drewN 1) (by have := r1.le; have := r1.max; unfold maxLen at this; omega)
      have g1 := q1.all
      have g2 := q2.all
      have u1 : Cells3 wr.drew b1 (o1 + j * 3) (pc l j) A1 c1 := q1.keep rfl
      have u2 : Cells3 wr.drew b2 (o2 + j * 3) (pc l j) A2 c2 := q2.keep rfl
      clear r1 r2 ha hb
      obtain ⟨x0, x1, x2⟩ := g1
      obtain ⟨y0, y1, y2⟩ := g2
      go_wp2_with fail
      go_region_held3 (fun w' => (w').cell? ⟨b1, o1 + j * 3, none⟩ = some (.int .i64 (pc l j).f) ∧ (w').cell? ⟨b1, o1 + j * 3 + 1, none⟩ = some (.int .i64 (pc l j).m) ∧ (w').cell? ⟨b1, o1 + j * 3 + 2, none⟩ = some (.slice (A1) (pc l j).zs.length (c1)) ∧ (w').cell? ⟨b2, o2 + j * 3, none⟩ = some (.int .i64 (pc l j).f) ∧ (w').cell? ⟨b2, o2 + j * 3 + 1, none⟩ = some (.int .i64 (pc l j).m) ∧ (w').cell? ⟨b2, o2 + j * 3 + 2, none⟩ = some (.slice (A2) (pc l j).zs.length (c2)))
        (first | exact s9 | assumption | go_keep)
        (first | (go_at_call 36; refine hE.mono ?_; rintro e w9 ⟨rfl, hb9⟩; have s9 := both3 (u1.below hb9) (u2.below hb9)))
      all_goals
        go_wp2
        go_roundw
        case rel => exact ⟨j + 1, by omega, by go_num, hbl.drew.trans (hb9.mono hbl.drew.size)⟩
        case measure => simp [intOf]; omega
    · have hd : decide ((j : Int) < (n : Int)) = false := by simp; omega
      go_wp2
      go_ret
      exact ⟨rfl, hbl⟩
end Go.Proofs.Ytkjglmfnlpapbaa.Pieces
