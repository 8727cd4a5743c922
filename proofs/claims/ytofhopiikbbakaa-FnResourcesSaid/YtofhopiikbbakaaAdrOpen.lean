/-
  The program's AddressText at a valid address, whatever the library's table of powers of ten holds.
  Conditions: the address is valid.
-/
import Derived.Test.YtofhopiikbbakaaAdr
import Derived.Test.YtofhopiikbbakaaFmtOpen
import Derived.Deep.RegionHeld3
namespace Go.Proofs.Ytofhopiikbbakaa.Fmo
open Go Go.RowKit Go.Proofs.Ytofhopiikbbakaa.Adr Go.Proofs.Ytofhopiikbbakaa.Fmt

theorem three_below' {W W' : World} {b : Nat} {x0 x1 x2 : Value} (hb : Below W.heap.size W W') (k : W.cell? ⟨b, 0, none⟩ = some x0 ∧ W.cell? ⟨b, 1, none⟩ = some x1 ∧ W.cell? ⟨b, 2, none⟩ = some x2) :
    W'.cell? ⟨b, 0, none⟩ = some x0 ∧ W'.cell? ⟨b, 1, none⟩ = some x1 ∧ W'.cell? ⟨b, 2, none⟩ = some x2 := ⟨cell_below k.1 hb, cell_below k.2.1 hb, cell_below k.2.2 hb⟩
theorem body_zero (h p : Int) : (⟨(body h p 0).toArray⟩ : ByteArray) = ⟨(Lib.itoa h).toArray⟩ ++ ⟨#[47]⟩ ++ ⟨(Lib.itoa p).toArray⟩ := by
  apply ByteArray.ext
  simp [body]
theorem body_some {h p q : Int} (k : q ≠ 0) : (⟨(body h p q).toArray⟩ : ByteArray) = ⟨(Lib.itoa h).toArray⟩ ++ ⟨#[47]⟩ ++ ⟨(Lib.itoa p).toArray⟩ ++ ⟨#[63]⟩ ++ ⟨(Lib.itoa q).toArray⟩ := by
  apply ByteArray.ext
  simp [body, k]

set_option maxHeartbeats 1000000 in
set_option maxRecDepth 100000 in
theorem text_small (h p q : Int) (w : World) (k : okA h p q = true) :
    Calls Try.prog 102 #[(Value.agg #[Value.int IntKind.i64 (h), Value.int IntKind.i64 (p), Value.int IntKind.i64 (q)])] w fun e w' => e = .returned (.string ⟨(body h p q).toArray⟩) ∧ Below w.heap.size w w' := by
  have bx := box_new w 26 h p q
  have bB : Below w.heap.size w (w.alloc (.cells #[.int .i64 h, .int .i64 p, .int .i64 q] 26)) := by repeat' (first | exact Below.refl _ _ | assumption | refine Below.setCell ?_ ?_ _ | refine Below.alloc ?_ ?_ _ | refine Adr.below_drewN ?_ _ | refine Below.drew ?_ | exact Nat.le_refl _ | omega | (dsimp only; omega) | refine Adr.le_alloc ?_ | refine Adr.le_set ?_ | refine Adr.le_drewN ?_ | refine Adr.le_drew ?_)
  obtain ⟨a1, a2, a3, a4, a5, a6⟩ := okA_iff.1 k
  have n0 := itoa_len h (by omega) (by omega)
  have n1 := itoa_len p (by omega) (by omega)
  have n2 := itoa_len q (by omega) (by omega)
  have m1 : ¬ 9223372036854775807 < (Lib.itoa h).length + 1 := by omega
  have m2 : ¬ 9223372036854775807 < (Lib.itoa h).length + 1 + (Lib.itoa p).length := by omega
  have m3 : ¬ 9223372036854775807 < (Lib.itoa h).length + 1 + (Lib.itoa p).length + 1 := by omega
  have m4 : ¬ 9223372036854775807 < (Lib.itoa h).length + 1 + (Lib.itoa p).length + 1 + (Lib.itoa q).length := by omega
  clear n0 n1 n2
  have hfh := fun W => fmt_small h W (by omega) (by omega)
  have hfp := fun W => fmt_small p W (by omega) (by omega)
  have hfq := fun W => fmt_small q W (by omega) (by omega)
  have hi := is_impl h p q (w.alloc (.cells #[.int .i64 h, .int .i64 p, .int .i64 q] 26))
  rw [k] at hi
  go_enter Try.func102, Try.ntmps102
  go_wp2_with fail
  go_at_call 103
  refine hi.mono ?_
  rintro e w1 ⟨rfl, hb1⟩
  obtain ⟨c0, c1, c2⟩ := bx.below hb1
  have bB : Below w.heap.size w w1 := bB.trans (hb1.mono bB.size)
  clear hi bx hb1
  go_wp2_with fail
  go_region_held3 (fun w' => w'.cell? ⟨w.heap.size, 0, none⟩ = some (.int .i64 h) ∧ w'.cell? ⟨w.heap.size, 1, none⟩ = some (.int .i64 p) ∧ w'.cell? ⟨w.heap.size, 2, none⟩ = some (.int .i64 q))
    (first | exact s3 | assumption | exact ⟨c0, c1, c2⟩ | go_keep)
    (first
    | (go_at_call 84; (with_reducible (show Calls _ _ #[Value.int IntKind.i64 h] _ _)); refine (hfh _).mono ?_; rintro e w3 ⟨rfl, hb3⟩; have s3 := three_below' hb3 (by assumption); have bB : Below w.heap.size w w3 := (by first | exact bB.trans (hb3.mono bB.size) | exact bB.drew.trans (hb3.mono bB.size)))
    | (go_at_call 84; (with_reducible (show Calls _ _ #[Value.int IntKind.i64 p] _ _)); refine (hfp _).mono ?_; rintro e w3 ⟨rfl, hb3⟩; have s3 := three_below' hb3 (by assumption); have bB : Below w.heap.size w w3 := (by first | exact bB.trans (hb3.mono bB.size) | exact bB.drew.trans (hb3.mono bB.size))))
  all_goals
    obtain ⟨c0, c1, c2⟩ := s3
    by_cases q0 : q = 0
    · subst q0
      go_wp2
      go_ret
      exact ⟨by rw [body_zero]; rfl, by assumption⟩
    · have q1 : (q == 0) = false := by simpa using q0
      go_wp2_with (go_at_call 84; refine (hfq _).mono ?_; rintro e w4 ⟨rfl, hb4⟩)
      go_ret
      exact ⟨by rw [body_some q0]; rfl, bB.trans (hb4.mono bB.size)⟩
end Go.Proofs.Ytofhopiikbbakaa.Fmo
