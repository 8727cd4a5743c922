/-
  The program's FormatInt where the library's table of powers of ten may hold any numbers: from 0 to 99, and 255.
  Conditions: the table's third place holds some number.
-/
import Derived.Test.YtofhopiikbbakaaProg
import Derived.Test.YtofhopiikbbakaaShelfSmall
import Derived.Test.YtofhopiikbbakaaAdr
import Derived.WalkKit
import Derived.Handy
import Derived.RegionTactic
namespace Go.Proofs.Ytofhopiikbbakaa.Fmo
open Go Go.RowKit Go.Proofs.Ytofhopiikbbakaa.Adr

/-- The table's third place holds x. -/
def At2 (x : Int) (w : World) : Prop := w.cell? ⟨1, 2, none⟩ = some (.int .u64 x)
theorem At2.on {x : Int} {w w1 : World} (h : At2 x w) (hb : Below w.heap.size w w1) : At2 x w1 := cell_below h hb

set_option maxRecDepth 100000 in
theorem two_any (b : Bool) (w : World) : Calls Try.prog 95 #[.bool b] w fun e w' => e = .returned (.int .i64 (if b then 1 else 0)) ∧ w' = w := by
  cases b
  all_goals
    go_enter Try.func95, Try.ntmps95
    go_wp2
    go_ret
    exact ⟨rfl, rfl⟩

set_option maxRecDepth 100000 in
theorem digits_open (x : Int) (w : World) (h : At2 x w) :
    Calls Try.prog 90 #[.int .u64 255] w fun e w' => e = .returned (.int .i64 (if x ≤ 255 then 3 else 2)) ∧ w' = w := by
  unfold At2 at h
  have hL := fun W => Try.bits_Len64 255 W (by omega) (by omega)
  have h10 := fun W => Try.internal_strconv_log10Pow2 8 (by omega) W
  rw [show Lib.l10 8 = 2 by decide] at h10
  simp only [show Lib.bitLen (255 : Int).toNat = 8 by decide] at hL
  go_enter Try.func90, Try.ntmps90
  go_wp2_with (first | (go_at_call 94; refine (hL _).mono ?_; rintro e w1 ⟨rfl, rfl⟩) | (go_at_call 93; refine (h10 _).mono ?_; rintro e w1 ⟨rfl, rfl⟩))
  go_at_call 95
  refine (two_any _ _).mono ?_
  rintro e w2 ⟨rfl, rfl⟩
  by_cases hd : x ≤ 255
  · simp only [hd, decide_true, if_true]
    go_wp2
    go_ret
    exact ⟨rfl, rfl⟩
  · simp only [hd, decide_false, Bool.false_eq_true, if_false]
    go_wp2
    go_ret
    exact ⟨rfl, rfl⟩

set_option maxHeartbeats 1600000 in
set_option maxRecDepth 100000 in
theorem base_2 (b c : Nat) (w : World) (c1 : w.cell? ⟨b, 1, none⟩ = some (.int .u8 0)) (c2 : w.cell? ⟨b, 2, none⟩ = some (.int .u8 0)) (f1 : w.frozen? ⟨b, 1, none⟩ = false) (f2 : w.frozen? ⟨b, 2, none⟩ = false) :
    Calls Try.prog 91 #[.slice (some ⟨b, 1, none⟩) 2 c, .int .u64 255] w fun e w' => e = .returned (.tuple #[]) ∧ w' = ((w.setCell ⟨b, 2, none⟩ (.int .u8 53)).setCell ⟨b, 1, none⟩ (.int .u8 53)).drew := by
  go_enter Try.func91, Try.ntmps91
  go_wp2
  refine wp_loop_rounds 1 ?_
  rw [rounds_succ]
  go_wp2
  go_region
  go_wp2
  go_returns
  exact ⟨rfl, rfl⟩

set_option maxHeartbeats 1600000 in
set_option maxRecDepth 100000 in
theorem base_3 (b c : Nat) (w : World) (c1 : w.cell? ⟨b, 1, none⟩ = some (.int .u8 0)) (c2 : w.cell? ⟨b, 2, none⟩ = some (.int .u8 0)) (c3 : w.cell? ⟨b, 3, none⟩ = some (.int .u8 0)) (f1 : w.frozen? ⟨b, 1, none⟩ = false) (f2 : w.frozen? ⟨b, 2, none⟩ = false) (f3 : w.frozen? ⟨b, 3, none⟩ = false) :
    Calls Try.prog 91 #[.slice (some ⟨b, 1, none⟩) 3 c, .int .u64 255] w fun e w' => e = .returned (.tuple #[]) ∧ w' = (((w.setCell ⟨b, 3, none⟩ (.int .u8 53)).setCell ⟨b, 2, none⟩ (.int .u8 53)).drew).setCell ⟨b, 1, none⟩ (.int .u8 50) := by
  go_enter Try.func91, Try.ntmps91
  go_wp2
  refine wp_loop_rounds 1 ?_
  rw [rounds_succ]
  go_wp2
  go_region
  go_wp2
  go_returns
  exact ⟨rfl, rfl⟩

def zer24 : Array Value := #[.int .u8 0, .int .u8 0, .int .u8 0, .int .u8 0, .int .u8 0, .int .u8 0, .int .u8 0, .int .u8 0, .int .u8 0, .int .u8 0, .int .u8 0, .int .u8 0, .int .u8 0, .int .u8 0, .int .u8 0, .int .u8 0, .int .u8 0, .int .u8 0, .int .u8 0, .int .u8 0, .int .u8 0, .int .u8 0, .int .u8 0, .int .u8 0]
set_option maxHeartbeats 1600000 in
set_option maxRecDepth 100000 in
theorem long_3 (x : Int) (w : World) (h : At2 x w) (hx : x ≤ 255) :
    Calls Try.prog 88 #[.int .i64 255, .int .i64 10] w fun e w' => e = .returned (.string ⟨#[50, 53, 53]⟩) ∧ Below w.heap.size w w' := by
  have hB : Below w.heap.size w (w.alloc (.cells zer24 118)) := by repeat' (first | exact Below.refl _ _ | assumption | refine Below.setCell ?_ ?_ _ | refine Below.alloc ?_ ?_ _ | refine Adr.below_drewN ?_ _ | refine Below.drew ?_ | exact Nat.le_refl _ | omega | (dsimp only; omega) | refine Adr.le_alloc ?_ | refine Adr.le_set ?_ | refine Adr.le_drewN ?_ | refine Adr.le_drew ?_)
  have hD := digits_open x _ (h.on hB)
  rw [if_pos hx] at hD
  have hb : (w.alloc (.cells zer24 118)).heap[w.heap.size]? = some (.cells zer24 118 (0, 0)) := by show (w.heap.push _)[w.heap.size]? = _; simp
  have c1 : (w.alloc (.cells zer24 118)).cell? ⟨w.heap.size, 1, none⟩ = some (.int .u8 0) := by rw [World.cell?_alloc_mark w _ _ (0, 0) 1]; rfl
  have f1 := frozen_of_row _ w.heap.size 1 _ _ hb
  have c2 : (w.alloc (.cells zer24 118)).cell? ⟨w.heap.size, 2, none⟩ = some (.int .u8 0) := by rw [World.cell?_alloc_mark w _ _ (0, 0) 2]; rfl
  have f2 := frozen_of_row _ w.heap.size 2 _ _ hb
  have c3 : (w.alloc (.cells zer24 118)).cell? ⟨w.heap.size, 3, none⟩ = some (.int .u8 0) := by rw [World.cell?_alloc_mark w _ _ (0, 0) 3]; rfl
  have f3 := frozen_of_row _ w.heap.size 3 _ _ hb
  have hF := base_3 w.heap.size 23 _ c1 c2 c3 f1 f2 f3
  have hB2 : Below w.heap.size w ((w.alloc (.cells #[.int .u8 0, .int .u8 50, .int .u8 53, .int .u8 53, .int .u8 0, .int .u8 0, .int .u8 0, .int .u8 0, .int .u8 0, .int .u8 0, .int .u8 0, .int .u8 0, .int .u8 0, .int .u8 0, .int .u8 0, .int .u8 0, .int .u8 0, .int .u8 0, .int .u8 0, .int .u8 0, .int .u8 0, .int .u8 0, .int .u8 0, .int .u8 0] 118)).drew) := ((Below.refl _ _).alloc (Nat.le_refl _) _).drew
  have hcv : (convert 22 9 (.slice (some ⟨w.heap.size, 1, none⟩) 3 23)).run Try.prog ((w.alloc (.cells #[.int .u8 0, .int .u8 50, .int .u8 53, .int .u8 53, .int .u8 0, .int .u8 0, .int .u8 0, .int .u8 0, .int .u8 0, .int .u8 0, .int .u8 0, .int .u8 0, .int .u8 0, .int .u8 0, .int .u8 0, .int .u8 0, .int .u8 0, .int .u8 0, .int .u8 0, .int .u8 0, .int .u8 0, .int .u8 0, .int .u8 0, .int .u8 0] 118)).drew) = .ok (.string ⟨#[50, 53, 53]⟩) ((w.alloc (.cells #[.int .u8 0, .int .u8 50, .int .u8 53, .int .u8 53, .int .u8 0, .int .u8 0, .int .u8 0, .int .u8 0, .int .u8 0, .int .u8 0, .int .u8 0, .int .u8 0, .int .u8 0, .int .u8 0, .int .u8 0, .int .u8 0, .int .u8 0, .int .u8 0, .int .u8 0, .int .u8 0, .int .u8 0, .int .u8 0, .int .u8 0, .int .u8 0] 118)).drew) :=
    run_convert_bytes_back (P := Try.prog) _ 22 9 5 ⟨w.heap.size, 1, none⟩ 23 [50, 53, 53] Try.underlying22 Try.underlying5 Try.underlying9 (fun j hj => by
      have hj3 : j = 0 ∨ j = 1 ∨ j = 2 := by simp at hj; omega
      rcases hj3 with rfl | rfl | rfl
      · show (w.alloc (.cells #[.int .u8 0, .int .u8 50, .int .u8 53, .int .u8 53, .int .u8 0, .int .u8 0, .int .u8 0, .int .u8 0, .int .u8 0, .int .u8 0, .int .u8 0, .int .u8 0, .int .u8 0, .int .u8 0, .int .u8 0, .int .u8 0, .int .u8 0, .int .u8 0, .int .u8 0, .int .u8 0, .int .u8 0, .int .u8 0, .int .u8 0, .int .u8 0] 118)).cell? ⟨w.heap.size, 1, none⟩ = _; rw [World.cell?_alloc_mark w _ _ (0, 0) 1]; rfl
      · show (w.alloc (.cells #[.int .u8 0, .int .u8 50, .int .u8 53, .int .u8 53, .int .u8 0, .int .u8 0, .int .u8 0, .int .u8 0, .int .u8 0, .int .u8 0, .int .u8 0, .int .u8 0, .int .u8 0, .int .u8 0, .int .u8 0, .int .u8 0, .int .u8 0, .int .u8 0, .int .u8 0, .int .u8 0, .int .u8 0, .int .u8 0, .int .u8 0, .int .u8 0] 118)).cell? ⟨w.heap.size, 2, none⟩ = _; rw [World.cell?_alloc_mark w _ _ (0, 0) 2]; rfl
      · show (w.alloc (.cells #[.int .u8 0, .int .u8 50, .int .u8 53, .int .u8 53, .int .u8 0, .int .u8 0, .int .u8 0, .int .u8 0, .int .u8 0, .int .u8 0, .int .u8 0, .int .u8 0, .int .u8 0, .int .u8 0, .int .u8 0, .int .u8 0, .int .u8 0, .int .u8 0, .int .u8 0, .int .u8 0, .int .u8 0, .int .u8 0, .int .u8 0, .int .u8 0] 118)).cell? ⟨w.heap.size, 3, none⟩ = _; rw [World.cell?_alloc_mark w _ _ (0, 0) 3]; rfl)
  unfold zer24 at hD hF hB
  clear c1 f1 c2 f2 c3 f3 hb h
  go_enter Try.func88, Try.ntmps88
  go_wp2_with fail
  go_at_call 90
  refine hD.mono ?_
  rintro e w1 ⟨rfl, rfl⟩
  go_wp2_with fail
  go_at_call 91
  refine hF.mono ?_
  rintro e w2 ⟨rfl, rfl⟩
  go_wp2
  go_ret
  exact ⟨rfl, hB2⟩

set_option maxHeartbeats 1600000 in
set_option maxRecDepth 100000 in
theorem long_2 (x : Int) (w : World) (h : At2 x w) (hx : ¬ x ≤ 255) :
    Calls Try.prog 88 #[.int .i64 255, .int .i64 10] w fun e w' => e = .returned (.string ⟨#[53, 53]⟩) ∧ Below w.heap.size w w' := by
  have hB : Below w.heap.size w (w.alloc (.cells zer24 118)) := by repeat' (first | exact Below.refl _ _ | assumption | refine Below.setCell ?_ ?_ _ | refine Below.alloc ?_ ?_ _ | refine Adr.below_drewN ?_ _ | refine Below.drew ?_ | exact Nat.le_refl _ | omega | (dsimp only; omega) | refine Adr.le_alloc ?_ | refine Adr.le_set ?_ | refine Adr.le_drewN ?_ | refine Adr.le_drew ?_)
  have hD := digits_open x _ (h.on hB)
  rw [if_neg hx] at hD
  have hb : (w.alloc (.cells zer24 118)).heap[w.heap.size]? = some (.cells zer24 118 (0, 0)) := by show (w.heap.push _)[w.heap.size]? = _; simp
  have c1 : (w.alloc (.cells zer24 118)).cell? ⟨w.heap.size, 1, none⟩ = some (.int .u8 0) := by rw [World.cell?_alloc_mark w _ _ (0, 0) 1]; rfl
  have f1 := frozen_of_row _ w.heap.size 1 _ _ hb
  have c2 : (w.alloc (.cells zer24 118)).cell? ⟨w.heap.size, 2, none⟩ = some (.int .u8 0) := by rw [World.cell?_alloc_mark w _ _ (0, 0) 2]; rfl
  have f2 := frozen_of_row _ w.heap.size 2 _ _ hb
  have hF := base_2 w.heap.size 23 _ c1 c2 f1 f2
  have hB2 : Below w.heap.size w ((w.alloc (.cells #[.int .u8 0, .int .u8 53, .int .u8 53, .int .u8 0, .int .u8 0, .int .u8 0, .int .u8 0, .int .u8 0, .int .u8 0, .int .u8 0, .int .u8 0, .int .u8 0, .int .u8 0, .int .u8 0, .int .u8 0, .int .u8 0, .int .u8 0, .int .u8 0, .int .u8 0, .int .u8 0, .int .u8 0, .int .u8 0, .int .u8 0, .int .u8 0] 118)).drew) := ((Below.refl _ _).alloc (Nat.le_refl _) _).drew
  have hcv : (convert 22 9 (.slice (some ⟨w.heap.size, 1, none⟩) 2 23)).run Try.prog ((w.alloc (.cells #[.int .u8 0, .int .u8 53, .int .u8 53, .int .u8 0, .int .u8 0, .int .u8 0, .int .u8 0, .int .u8 0, .int .u8 0, .int .u8 0, .int .u8 0, .int .u8 0, .int .u8 0, .int .u8 0, .int .u8 0, .int .u8 0, .int .u8 0, .int .u8 0, .int .u8 0, .int .u8 0, .int .u8 0, .int .u8 0, .int .u8 0, .int .u8 0] 118)).drew) = .ok (.string ⟨#[53, 53]⟩) ((w.alloc (.cells #[.int .u8 0, .int .u8 53, .int .u8 53, .int .u8 0, .int .u8 0, .int .u8 0, .int .u8 0, .int .u8 0, .int .u8 0, .int .u8 0, .int .u8 0, .int .u8 0, .int .u8 0, .int .u8 0, .int .u8 0, .int .u8 0, .int .u8 0, .int .u8 0, .int .u8 0, .int .u8 0, .int .u8 0, .int .u8 0, .int .u8 0, .int .u8 0] 118)).drew) :=
    run_convert_bytes_back (P := Try.prog) _ 22 9 5 ⟨w.heap.size, 1, none⟩ 23 [53, 53] Try.underlying22 Try.underlying5 Try.underlying9 (fun j hj => by
      have hj3 : j = 0 ∨ j = 1 := by simp at hj; omega
      rcases hj3 with rfl | rfl
      · show (w.alloc (.cells #[.int .u8 0, .int .u8 53, .int .u8 53, .int .u8 0, .int .u8 0, .int .u8 0, .int .u8 0, .int .u8 0, .int .u8 0, .int .u8 0, .int .u8 0, .int .u8 0, .int .u8 0, .int .u8 0, .int .u8 0, .int .u8 0, .int .u8 0, .int .u8 0, .int .u8 0, .int .u8 0, .int .u8 0, .int .u8 0, .int .u8 0, .int .u8 0] 118)).cell? ⟨w.heap.size, 1, none⟩ = _; rw [World.cell?_alloc_mark w _ _ (0, 0) 1]; rfl
      · show (w.alloc (.cells #[.int .u8 0, .int .u8 53, .int .u8 53, .int .u8 0, .int .u8 0, .int .u8 0, .int .u8 0, .int .u8 0, .int .u8 0, .int .u8 0, .int .u8 0, .int .u8 0, .int .u8 0, .int .u8 0, .int .u8 0, .int .u8 0, .int .u8 0, .int .u8 0, .int .u8 0, .int .u8 0, .int .u8 0, .int .u8 0, .int .u8 0, .int .u8 0] 118)).cell? ⟨w.heap.size, 2, none⟩ = _; rw [World.cell?_alloc_mark w _ _ (0, 0) 2]; rfl)
  unfold zer24 at hD hF hB
  clear c1 f1 c2 f2 hb h
  go_enter Try.func88, Try.ntmps88
  go_wp2_with fail
  go_at_call 90
  refine hD.mono ?_
  rintro e w1 ⟨rfl, rfl⟩
  go_wp2_with fail
  go_at_call 91
  refine hF.mono ?_
  rintro e w2 ⟨rfl, rfl⟩
  go_wp2
  go_ret
  exact ⟨rfl, hB2⟩

/-- 255's text, as the table's third place has it. -/
def t255 (x : Int) : ByteArray := if x ≤ 255 then ⟨#[50, 53, 53]⟩ else ⟨#[53, 53]⟩

set_option maxRecDepth 100000 in
theorem fmt_255 (x : Int) (w : World) (h : At2 x w) :
    Calls Try.prog 84 #[.int .i64 255] w fun e w' => e = .returned (.string (t255 x)) ∧ Below w.heap.size w w' := by
  have hL : Calls Try.prog 88 #[.int .i64 255, .int .i64 10] w fun e w' => e = .returned (.string (t255 x)) ∧ Below w.heap.size w w' := by
    unfold t255
    by_cases hx : x ≤ 255
    · rw [if_pos hx]; exact long_3 x w h hx
    · rw [if_neg hx]; exact long_2 x w h hx
  have hI : Calls Try.prog 87 #[.int .i64 255] w fun e w' => e = .returned (.string (t255 x)) ∧ Below w.heap.size w w' := by
    go_enter Try.func87, Try.ntmps87
    go_wp2_with (go_at_call 88; refine hL.mono ?_; rintro e w1 ⟨rfl, hb1⟩)
    go_ret
    exact ⟨rfl, hb1⟩
  have hS : Calls Try.prog 86 #[.int .i64 255] w fun e w' => e = .returned (.string (t255 x)) ∧ Below w.heap.size w w' := by
    go_enter Try.func86, Try.ntmps86
    go_wp2_with (go_at_call 87; refine hI.mono ?_; rintro e w1 ⟨rfl, hb1⟩)
    go_ret
    exact ⟨rfl, hb1⟩
  go_enter Try.func84, Try.ntmps84
  go_wp2_with (go_at_call 86; refine hS.mono ?_; rintro e w1 ⟨rfl, hb1⟩)
  go_ret
  exact ⟨rfl, hb1⟩

set_option maxRecDepth 100000 in
theorem fmt_small (n : Int) (w : World) (h0 : 0 ≤ n) (h1 : n < 100) :
    Calls Try.prog 84 #[.int .i64 n] w fun e w' => e = .returned (.string ⟨(Lib.itoa n).toArray⟩) ∧ Below w.heap.size w w' := by
  obtain ⟨i, rfl⟩ : ∃ i : Nat, n = i := ⟨n.toNat, by omega⟩
  rw [Lib.itoa_nonneg]
  go_enter Try.func84, Try.ntmps84
  go_wp2_with (go_at_call 86; refine (Try.strconv_Itoa_small i (by omega) _).mono ?_; rintro e w' ⟨rfl, rfl⟩)
  go_ret
  exact ⟨rfl, Below.refl _ _⟩
end Go.Proofs.Ytofhopiikbbakaa.Fmo
