/-
  The steps of a script, by the program: functions that bring a number into a range, a step that is decoded, the nearest valid step, whether it is the step itself.
  Conditions: none.
-/
import Derived.Test.YtbohkohccnieiaaScriptMath
import Derived.Test.YtbohkohccnieiaaMinMax
import Derived.Test.YtbohkohccnieiaaBlk
import Derived.Deep.RegionHeld3
import Derived.Shelf.Abstract
import Derived.Laws.StructEq
import Derived.Deep.CutBlock
import Derived.Deep.DeepCutAuto
namespace Go.Proofs.Ytbohkohccnieiaa.Scripts
open Go Go.RowKit Go.Proofs.Ytbohkohccnieiaa.Mem Go.Proofs.Ytbohkohccnieiaa.Gen Go.Proofs.Ytbohkohccnieiaa.Range Go.Proofs.Ytbohkohccnieiaa.MinMax

theorem in_is (x lo hi : Int) (w : World) :
    Calls Try.prog 49 #[.int .i64 x, .int .i64 lo, .int .i64 hi] w fun e w' => e = .returned (.bool (inR lo hi x)) ∧ w = w' := by
  by_cases h : lo ≤ x ∧ x ≤ hi
  · rw [inR_yes h.1 h.2]; exact in_yes x lo hi w h.1 h.2
  · rw [inR_no (by omega)]; exact in_no x lo hi w (by omega)

/-- A number brought into a range. -/
def mx (a b : Int) : Int := if b < a then a else b
def mn (a b : Int) : Int := if a < b then a else b
def clamp (lo hi n : Int) : Int := mn (mx n lo) hi
theorem mx_is (a b : Int) : (b < a ∧ mx a b = a) ∨ (a ≤ b ∧ mx a b = b) := by
  unfold mx
  by_cases h : b < a
  · rw [if_pos h]; exact .inl ⟨h, rfl⟩
  · rw [if_neg h]; exact .inr ⟨by omega, rfl⟩
theorem mn_is (a b : Int) : (a < b ∧ mn a b = a) ∨ (b ≤ a ∧ mn a b = b) := by
  unfold mn
  by_cases h : a < b
  · rw [if_pos h]; exact .inl ⟨h, rfl⟩
  · rw [if_neg h]; exact .inr ⟨by omega, rfl⟩
theorem clamp_same {lo hi n : Int} (h : lo ≤ hi) : (n = clamp lo hi n) ↔ inR lo hi n = true := by
  unfold clamp inR
  rw [decide_eq_true_eq]
  have h1 := mx_is n lo
  have h2 := mn_is (mx n lo) hi
  omega
theorem clamp_zero (n : Int) : clamp 0 0 n = 0 := by
  unfold clamp
  have h1 := mx_is n 0
  have h2 := mn_is (mx n 0) 0
  omega

/-- Block B holds the lower bound, the next one the upper. -/
structure Lim (B : Nat) (lo hi : Int) (w : World) : Prop where
  b0 : w.heap[B]? = some (.cells #[.int .i64 lo] 3 (0, 0))
  b1 : w.heap[B + 1]? = some (.cells #[.int .i64 hi] 3 (0, 0))
theorem Lim.below {B : Nat} {lo hi : Int} {w w' : World} (h : Lim B lo hi w) (hb : Below w.heap.size w w') : Lim B lo hi w' :=
  ⟨(hb.block _ (Array.getElem?_eq_some_iff.1 h.b0).1).trans h.b0, (hb.block _ (Array.getElem?_eq_some_iff.1 h.b1).1).trans h.b1⟩
theorem Lim.drew {B : Nat} {lo hi : Int} {w : World} (h : Lim B lo hi w) : Lim B lo hi w.drew := ⟨h.b0, h.b1⟩
theorem Lim.cells {B : Nat} {lo hi : Int} {w : World} (h : Lim B lo hi w) : w.cell? ⟨B, 0, none⟩ = some (.int .i64 lo) ∧ w.cell? ⟨B + 1, 0, none⟩ = some (.int .i64 hi) := ⟨by simp [World.cell?, h.b0], by simp [World.cell?, h.b1]⟩
theorem Lim.set {B : Nat} {lo hi : Int} {w : World} (h : Lim B lo hi w) {b : Nat} {xs : List Value} (q : Blk 93 b xs w) (x : Nat) (u : Value) : Lim B lo hi (w.setCell ⟨b, x, none⟩ u) := by
  have no : ∀ (c : Nat) (z : Int), w.heap[c]? = some (.cells #[.int .i64 z] 3 (0, 0)) → c ≠ b := fun c z e1 e2 => by
    subst e2
    unfold Blk at q
    rw [e1] at q
    injection q with q
    injection q with q1 q2
    exact absurd q2 (by decide)
  exact ⟨(heap_setCell_other w _ B u (no _ _ h.b0)).trans h.b0, (heap_setCell_other w _ (B + 1) u (no _ _ h.b1)).trans h.b1⟩
def within (B : Nat) : Value := .func (.func 92) #[] #[.pointer (some ⟨B, 0, none⟩), .pointer (some ⟨B + 1, 0, none⟩)]
def absent : Value := .func (.func 89) #[] #[]
/-- A function value that brings a number into the range. -/
def Brings (v : Value) (lo hi : Int) (w : World) : Prop := (∃ B, v = within B ∧ Lim B lo hi w) ∨ (v = absent ∧ lo = 0 ∧ hi = 0)
theorem Brings.below {v : Value} {lo hi : Int} {w w' : World} (h : Brings v lo hi w) (hb : Below w.heap.size w w') : Brings v lo hi w' := by
  rcases h with ⟨B, e, h⟩ | h
  · exact .inl ⟨B, e, h.below hb⟩
  · exact .inr h
theorem Brings.set {v : Value} {lo hi : Int} {w : World} (h : Brings v lo hi w) {b : Nat} {xs : List Value} (q : Blk 93 b xs w) (x : Nat) (u : Value) : Brings v lo hi (w.setCell ⟨b, x, none⟩ u) := by
  rcases h with ⟨B, e, h⟩ | h
  · exact .inl ⟨B, e, h.set q x u⟩
  · exact .inr h
theorem Brings.set3 {v : Value} {lo hi : Int} {w : World} (h : Brings v lo hi w) {b : Nat} {xs : List Value} (q : Blk 93 b xs w) (u0 u1 u2 : Value) : Brings v lo hi (((w.setCell ⟨b, 0, none⟩ u0).setCell ⟨b, 1, none⟩ u1).setCell ⟨b, 2, none⟩ u2) :=
  ((h.set q 0 u0).set (q.set 0 u0) 1 u1).set ((q.set 0 u0).set 1 u1) 2 u2

set_option maxRecDepth 100000 in
theorem take_any (B : Nat) (lo hi n : Int) (w : World) (hl : Lim B lo hi w) :
    Calls Try.prog 92 #[.int .i64 n, .pointer (some ⟨B, 0, none⟩), .pointer (some ⟨B + 1, 0, none⟩)] w fun e w' => e = .returned (.int .i64 (clamp lo hi n)) ∧ Below w.heap.size w w' := by
  have s0 : w.drew.cell? ⟨B, 0, none⟩ = some (.int .i64 lo) ∧ w.drew.cell? ⟨B + 1, 0, none⟩ = some (.int .i64 hi) := hl.drew.cells
  have h1 := fun W => max_impl n lo (mx n lo) W (mx_is n lo)
  have h2 := fun W => min_impl (mx n lo) hi (clamp lo hi n) W (mn_is (mx n lo) hi)
  obtain ⟨x, hx⟩ : ∃ x, mx n lo = x := ⟨_, rfl⟩
  obtain ⟨y, hy⟩ : ∃ y, clamp lo hi n = y := ⟨_, rfl⟩
  rw [hx] at h1 h2
  rw [hy] at h2 ⊢
  clear hx hy
  go_enter Try.func92, Try.ntmps92
  go_upto_region 1 with fail

  refine wp_region_held_drew (S := (fun w' => w'.cell? ⟨B, 0, none⟩ = some (.int .i64 lo) ∧ w'.cell? ⟨B + 1, 0, none⟩ = some (.int .i64 hi))) (by kernel_rfl) s0 (fun hHeld => ?_)
  refine wpAnyH_take (i := 0) (v := ?va0) (List.getElem?_toArray.trans rfl) (by kernel_rfl) (by kernel_rfl) (by kernel_rfl) (fun _ _ _ h => h) (Or.inl ⟨by rfl, ?ya0⟩) (by assumption) ?ra0
  case ya0 => (intro w hSw; (try dsimp only at hSw); go_simp; try with_reducible rfl)
  try simp only [Act.put, List.setIfInBounds_toArray, List.set_cons_zero, List.set_cons_succ]
  refine wpAnyH_take (i := 1) (v := ?va1) (List.getElem?_toArray.trans rfl) (by kernel_rfl) (by kernel_rfl) (by kernel_rfl) (fun _ _ _ h => h) (Or.inl ⟨by rfl, ?ya1⟩) (by assumption) ?ra1
  case ya1 => (intro w hSw; (try dsimp only at hSw); go_simp; try with_reducible rfl)
  try simp only [Act.put, List.setIfInBounds_toArray, List.set_cons_zero, List.set_cons_succ]
  refine wpAnyH_take (i := 3) (v := ?va3) (List.getElem?_toArray.trans rfl) (by kernel_rfl) (by kernel_rfl) (by kernel_rfl) (fun _ _ _ h => h) (Or.inl ⟨by rfl, ?ya3⟩) (by assumption) ?ra3
  case ya3 => (intro w hSw; (try dsimp only at hSw); go_simp; try with_reducible rfl)
  try simp only [Act.put, List.setIfInBounds_toArray, List.set_cons_zero, List.set_cons_succ]
  refine wpAnyH_ready (rs := [2]) (by kernel_rfl) (by simp) ?_
  refine AllReadyH.cons (List.getElem?_toArray.trans rfl) (fun K hK => ?_) AllReadyH.nil
  go_simp
  go_at_call 74
  refine (h1 _).mono ?_
  rintro e w1 ⟨rfl, hb1⟩
  have hl1 := Lim.below (w := w.drew) ⟨hl.b0, hl.b1⟩ hb1
  have hb1 : Below w.heap.size w w1 := (gbelow_drewN (Below.refl _ w) 1).trans hb1
  have s9 : w1.cell? ⟨B, 0, none⟩ = some (.int .i64 lo) ∧ w1.cell? ⟨B + 1, 0, none⟩ = some (.int .i64 hi) := hl1.cells
  refine hK.out _ _ s9 (fun hHeld => ?_)
  clear hK K
  try simp only [Act.put, List.setIfInBounds_toArray, List.set_cons_zero, List.set_cons_succ]
  refine wpAnyH_ready (rs := [4]) (by kernel_rfl) (by simp) ?_
  refine AllReadyH.cons (List.getElem?_toArray.trans rfl) (fun K hK => ?_) AllReadyH.nil
  go_simp
  go_at_call 73
  refine (h2 _).mono ?_
  rintro e w2 ⟨rfl, hb2⟩
  have hl2 := hl1.below hb2
  have hb2 := hb1.trans (hb2.mono hb1.size)
  have s9 : w2.cell? ⟨B, 0, none⟩ = some (.int .i64 lo) ∧ w2.cell? ⟨B + 1, 0, none⟩ = some (.int .i64 hi) := hl2.cells
  refine hK.out _ _ s9 (fun hHeld => ?_)
  clear hK K
  try simp only [Act.put, List.setIfInBounds_toArray, List.set_cons_zero, List.set_cons_succ]
  refine wpAnyH_take (i := 5) (v := ?va5) (List.getElem?_toArray.trans rfl) (by kernel_rfl) (by kernel_rfl) (by kernel_rfl) (fun _ _ _ h => h) (Or.inl ⟨by rfl, ?ya5⟩) (by assumption) ?ra5
  case ya5 => (intro w hSw; (try dsimp only at hSw); go_simp; try with_reducible rfl)
  try simp only [Act.put, List.setIfInBounds_toArray, List.set_cons_zero, List.set_cons_succ]
  refine wpAnyH_done (by kernel_rfl) ?_ _

  go_wp2
  go_ret
  exact ⟨rfl, hb2⟩

set_option maxRecDepth 100000 in
theorem absent_any (n : Int) (w : World) :
    Calls Try.prog 89 #[.int .i64 n] w fun e w' => e = .returned (.int .i64 0) ∧ w = w' := by
  go_enter Try.func89, Try.ntmps89
  go_wp2
  go_ret
  exact ⟨rfl, rfl⟩
/-- What such a function value does, in every later world. -/
theorem Brings.shape {v : Value} {lo hi : Int} {w : World} (h : Brings v lo hi w) : ∃ (g : Nat) (lb : Array Value), v = .func (.func g) #[] lb ∧ (∀ args w, (callFunc g args).run Try.prog w = .ok (.enter g args) w) ∧
    ∀ (n : Int) (W : World), Below w.heap.size w W → Calls Try.prog g (#[.int .i64 n] ++ lb) W fun e w' => e = .returned (.int .i64 (clamp lo hi n)) ∧ Below W.heap.size W w' := by
  rcases h with ⟨B, rfl, h⟩ | ⟨rfl, rfl, rfl⟩
  · exact ⟨_, _, rfl, enters_of Try.func92 (by kernel_rfl) rfl, fun n W hW => take_any B lo hi n W (h.below hW)⟩
  · refine ⟨_, _, rfl, enters_of Try.func89 (by kernel_rfl) rfl, fun n W _ => ?_⟩
    rw [clamp_zero]
    refine (absent_any n W).mono ?_
    rintro e w' ⟨rfl, rfl⟩
    exact ⟨rfl, Below.refl _ _⟩

set_option maxRecDepth 100000 in
theorem within_any (lo hi : Int) (w : World) :
    Calls Try.prog 88 #[.int .i64 lo, .int .i64 hi] w fun e w' => ∃ v, e = .returned v ∧ Brings v lo hi w' ∧ Below w.heap.size w w' := by
  have hmf : ∀ (fn : Fn) (first cap : Array Value) (w : World), (Instr.makeFunc fn first cap).run Try.prog w = .ok (.func fn first cap) w := fun _ _ _ _ => rfl
  have hl : Lim w.heap.size lo hi ((w.alloc (.cells #[.int .i64 lo] 3)).alloc (.cells #[.int .i64 hi] 3)) := ⟨by
    rw [Below.heap_alloc _ _ _ (by simp)]; exact heap_alloc_new w _, by
    have := heap_alloc_new (w.alloc (.cells #[.int .i64 lo] 3)) (.cells #[.int .i64 hi] 3)
    simpa using this⟩
  have hB : Below w.heap.size w ((w.alloc (.cells #[.int .i64 lo] 3)).alloc (.cells #[.int .i64 hi] 3)) := ((Below.refl _ _).alloc (Nat.le_refl _) _).alloc (by simp) _
  go_enter Try.func88, Try.ntmps88
  go_wp2
  go_ret
  exact ⟨_, rfl, .inl ⟨_, rfl, hl⟩, hB⟩

theorem store_func (w : World) (a : Addr) (f : Fn) (x y : Array Value) (m : Mode) : (store a (.func f x y) m).run Try.prog w = stored Try.prog w a (.func f x y) m := run_store Try.prog w a _ m rfl
theorem store_none (w : World) (a : Addr) (m : Mode) : (store a .nilFunc m).run Try.prog w = stored Try.prog w a .nilFunc m := run_store Try.prog w a _ m rfl
/-- A step as it is decoded. -/
def Decoded (k : Int) (w : World) (e : Ending) (w' : World) : Prop :=
  match rng k with
  | none => e = .returned (.tuple #[.agg #[.nilFunc, .nilFunc, .nilFunc], .bool false]) ∧ Below w.heap.size w w'
  | some (b0, b1, c0, c1) => ∃ fa fb fc, e = .returned (.tuple #[.agg #[fa, fb, fc], .bool true]) ∧ Brings fa 0 3 w' ∧ Brings fb b0 b1 w' ∧ Brings fc c0 c1 w' ∧ Below w.heap.size w w'

set_option maxHeartbeats 800000 in
set_option maxRecDepth 100000 in
theorem decode_1 (a b c : Int) (w : World) :
    Calls Try.prog 76 #[.agg #[.int .i64 1, .int .i64 a, .int .i64 b, .int .i64 c]] w (Decoded 1 w) := by
  have hB : Below w.heap.size w ((w.alloc (.cells #[.int .i64 1, .int .i64 a, .int .i64 b, .int .i64 c] 71)).alloc (.cells #[.nilFunc, .nilFunc, .nilFunc] 93)) := ((Below.refl _ _).alloc (Nat.le_refl _) _).alloc (by simp) _
  have qB := (Blk.new 71 [.int .i64 1, .int .i64 a, .int .i64 b, .int .i64 c] w).alloc (.cells #[.nilFunc, .nilFunc, .nilFunc] 93)
  have qD := Blk.new 93 [.nilFunc, .nilFunc, .nilFunc] (w.alloc (.cells #[.int .i64 1, .int .i64 a, .int .i64 b, .int .i64 c] 71))
  rw [gsize_alloc] at qD
  obtain ⟨W, hW⟩ : ∃ W, (w.alloc (.cells #[.int .i64 1, .int .i64 a, .int .i64 b, .int .i64 c] 71)).alloc (.cells #[.nilFunc, .nilFunc, .nilFunc] 93) = W := ⟨_, rfl⟩
  have hW2 := hW
  simp only [List.toArray] at qB qD
  replace qB : Blk 71 w.heap.size [.int .i64 1, .int .i64 a, .int .i64 b, .int .i64 c] W := by rw [← hW]; exact qB
  replace qD : Blk 93 (w.heap.size + 1) [.nilFunc, .nilFunc, .nilFunc] W := by rw [← hW]; exact qD
  rw [hW] at hB
  have HW := Lib.hid hW
  clear hW hW2

  go_enter Try.func76, Try.ntmps76
  go_upto_region 1 with fail
  rw [HW.out]
  go_wp2_with fail
  go_at_call 88
  refine (within_any 0 3 _).mono ?_
  rintro e w1 ⟨fa, rfl, hfa, hb1⟩
  have qB := qB.below hb1
  have qD := qD.below hb1
  have hB := hB.trans (hb1.mono hB.size)
  have y0 : w1.cell? ⟨w.heap.size, 0, none⟩ = some (.int .i64 1) := qB.at rfl
  go_wp2_with fail
  go_at_call 88
  refine (within_any 1 9 _).mono ?_
  rintro e w2 ⟨fb, rfl, hfb, hb2⟩
  have qB := qB.below hb2
  have qD := qD.below hb2
  have hB := hB.trans (hb2.mono hB.size)
  have hfa := hfa.below hb2
  go_wp2_with fail
  go_at_call 88
  refine (within_any 0 99 _).mono ?_
  rintro e w3 ⟨fc, rfl, hfc, hb3⟩
  have qB := qB.below hb3
  have qD := qD.below hb3
  have hB := hB.trans (hb3.mono hB.size)
  have hfa := hfa.below hb3
  have hfb := hfb.below hb3
  have d0 := qD.free 0
  have d1 := qD.free 1
  have d2 := qD.free 2
  have hsf := store_func
  have hsn := store_none
  have z0 := qD.at (x := 0) rfl
  have z1 := qD.at (x := 1) rfl
  have z2 := qD.at (x := 2) rfl
  have hfa2 := hfa
  obtain ⟨gfa, lfa, rfl, _, _⟩ := hfa2.shape
  have hfb2 := hfb
  obtain ⟨gfb, lfb, rfl, _, _⟩ := hfb2.shape
  have hfc2 := hfc
  obtain ⟨gfc, lfc, rfl, _, _⟩ := hfc2.shape
  have qE := ((qD.set 0 (.func (.func gfa) #[] lfa)).set 1 (.func (.func gfb) #[] lfb)).set 2 (.func (.func gfc) #[] lfc)
  simp only [List.set_cons_zero, List.set_cons_succ] at qE
  have x0 := qE.at (x := 0) rfl
  have x1 := qE.at (x := 1) rfl
  have x2 := qE.at (x := 2) rfl
  have hZ : Below w3.heap.size w3 w3 := Below.refl _ _
  go_wp2
  refine bodyPost_ret (v := .tuple #[.agg #[(.func (.func gfa) #[] lfa), (.func (.func gfb) #[] lfb), (.func (.func gfc) #[] lfc)], .bool true]) (by simp [results, Try.results76, go_sem, x0, x1, x2]) rfl ?_
  exact ⟨_, _, _, rfl, hfa.set3 qD _ _ _, hfb.set3 qD _ _ _, hfc.set3 qD _ _ _, ((hB.setCell (by simp) _).setCell (by simp) _).setCell (by simp) _⟩

set_option maxHeartbeats 800000 in
set_option maxRecDepth 100000 in
theorem decode_2 (a b c : Int) (w : World) :
    Calls Try.prog 76 #[.agg #[.int .i64 2, .int .i64 a, .int .i64 b, .int .i64 c]] w (Decoded 2 w) := by
  have hB : Below w.heap.size w ((w.alloc (.cells #[.int .i64 2, .int .i64 a, .int .i64 b, .int .i64 c] 71)).alloc (.cells #[.nilFunc, .nilFunc, .nilFunc] 93)) := ((Below.refl _ _).alloc (Nat.le_refl _) _).alloc (by simp) _
  have qB := (Blk.new 71 [.int .i64 2, .int .i64 a, .int .i64 b, .int .i64 c] w).alloc (.cells #[.nilFunc, .nilFunc, .nilFunc] 93)
  have qD := Blk.new 93 [.nilFunc, .nilFunc, .nilFunc] (w.alloc (.cells #[.int .i64 2, .int .i64 a, .int .i64 b, .int .i64 c] 71))
  rw [gsize_alloc] at qD
  obtain ⟨W, hW⟩ : ∃ W, (w.alloc (.cells #[.int .i64 2, .int .i64 a, .int .i64 b, .int .i64 c] 71)).alloc (.cells #[.nilFunc, .nilFunc, .nilFunc] 93) = W := ⟨_, rfl⟩
  have hW2 := hW
  simp only [List.toArray] at qB qD
  replace qB : Blk 71 w.heap.size [.int .i64 2, .int .i64 a, .int .i64 b, .int .i64 c] W := by rw [← hW]; exact qB
  replace qD : Blk 93 (w.heap.size + 1) [.nilFunc, .nilFunc, .nilFunc] W := by rw [← hW]; exact qD
  rw [hW] at hB
  have HW := Lib.hid hW
  clear hW hW2

  go_enter Try.func76, Try.ntmps76
  go_upto_region 1 with fail
  rw [HW.out]
  go_wp2_with fail
  go_at_call 88
  refine (within_any 0 3 _).mono ?_
  rintro e w1 ⟨fa, rfl, hfa, hb1⟩
  have qB := qB.below hb1
  have qD := qD.below hb1
  have hB := hB.trans (hb1.mono hB.size)
  have y0 : w1.cell? ⟨w.heap.size, 0, none⟩ = some (.int .i64 2) := qB.at rfl
  have d0 := qD.free 0
  have d1 := qD.free 1
  have d2 := qD.free 2
  have hsf := store_func
  have hsn := store_none
  have z0 := qD.at (x := 0) rfl
  have z1 := qD.at (x := 1) rfl
  have z2 := qD.at (x := 2) rfl
  have hfa2 := hfa
  obtain ⟨gfa, lfa, rfl, _, _⟩ := hfa2.shape
  have qE := ((qD.set 0 (.func (.func gfa) #[] lfa)).set 1 (.func (.func 89) #[] #[])).set 2 (.func (.func 89) #[] #[])
  simp only [List.set_cons_zero, List.set_cons_succ] at qE
  have x0 := qE.at (x := 0) rfl
  have x1 := qE.at (x := 1) rfl
  have x2 := qE.at (x := 2) rfl
  have hZ : Below w1.heap.size w1 w1 := Below.refl _ _
  go_wp2
  refine bodyPost_ret (v := .tuple #[.agg #[(.func (.func gfa) #[] lfa), (.func (.func 89) #[] #[]), (.func (.func 89) #[] #[])], .bool true]) (by simp [results, Try.results76, go_sem, x0, x1, x2]) rfl ?_
  exact ⟨_, _, _, rfl, hfa.set3 qD _ _ _, (Or.inr ⟨rfl, rfl, rfl⟩), (Or.inr ⟨rfl, rfl, rfl⟩), ((hB.setCell (by simp) _).setCell (by simp) _).setCell (by simp) _⟩

set_option maxHeartbeats 800000 in
set_option maxRecDepth 100000 in
theorem decode_3 (a b c : Int) (w : World) :
    Calls Try.prog 76 #[.agg #[.int .i64 3, .int .i64 a, .int .i64 b, .int .i64 c]] w (Decoded 3 w) := by
  have hB : Below w.heap.size w ((w.alloc (.cells #[.int .i64 3, .int .i64 a, .int .i64 b, .int .i64 c] 71)).alloc (.cells #[.nilFunc, .nilFunc, .nilFunc] 93)) := ((Below.refl _ _).alloc (Nat.le_refl _) _).alloc (by simp) _
  have qB := (Blk.new 71 [.int .i64 3, .int .i64 a, .int .i64 b, .int .i64 c] w).alloc (.cells #[.nilFunc, .nilFunc, .nilFunc] 93)
  have qD := Blk.new 93 [.nilFunc, .nilFunc, .nilFunc] (w.alloc (.cells #[.int .i64 3, .int .i64 a, .int .i64 b, .int .i64 c] 71))
  rw [gsize_alloc] at qD
  obtain ⟨W, hW⟩ : ∃ W, (w.alloc (.cells #[.int .i64 3, .int .i64 a, .int .i64 b, .int .i64 c] 71)).alloc (.cells #[.nilFunc, .nilFunc, .nilFunc] 93) = W := ⟨_, rfl⟩
  have hW2 := hW
  simp only [List.toArray] at qB qD
  replace qB : Blk 71 w.heap.size [.int .i64 3, .int .i64 a, .int .i64 b, .int .i64 c] W := by rw [← hW]; exact qB
  replace qD : Blk 93 (w.heap.size + 1) [.nilFunc, .nilFunc, .nilFunc] W := by rw [← hW]; exact qD
  rw [hW] at hB
  have HW := Lib.hid hW
  clear hW hW2

  go_enter Try.func76, Try.ntmps76
  go_upto_region 1 with fail
  rw [HW.out]
  go_wp2_with fail
  go_at_call 88
  refine (within_any 0 3 _).mono ?_
  rintro e w1 ⟨fa, rfl, hfa, hb1⟩
  have qB := qB.below hb1
  have qD := qD.below hb1
  have hB := hB.trans (hb1.mono hB.size)
  have y0 : w1.cell? ⟨w.heap.size, 0, none⟩ = some (.int .i64 3) := qB.at rfl
  have d0 := qD.free 0
  have d1 := qD.free 1
  have d2 := qD.free 2
  have hsf := store_func
  have hsn := store_none
  have z0 := qD.at (x := 0) rfl
  have z1 := qD.at (x := 1) rfl
  have z2 := qD.at (x := 2) rfl
  have hfa2 := hfa
  obtain ⟨gfa, lfa, rfl, _, _⟩ := hfa2.shape
  have qE := ((qD.set 0 (.func (.func gfa) #[] lfa)).set 1 (.func (.func 89) #[] #[])).set 2 (.func (.func 89) #[] #[])
  simp only [List.set_cons_zero, List.set_cons_succ] at qE
  have x0 := qE.at (x := 0) rfl
  have x1 := qE.at (x := 1) rfl
  have x2 := qE.at (x := 2) rfl
  have hZ : Below w1.heap.size w1 w1 := Below.refl _ _
  go_wp2
  refine bodyPost_ret (v := .tuple #[.agg #[(.func (.func gfa) #[] lfa), (.func (.func 89) #[] #[]), (.func (.func 89) #[] #[])], .bool true]) (by simp [results, Try.results76, go_sem, x0, x1, x2]) rfl ?_
  exact ⟨_, _, _, rfl, hfa.set3 qD _ _ _, (Or.inr ⟨rfl, rfl, rfl⟩), (Or.inr ⟨rfl, rfl, rfl⟩), ((hB.setCell (by simp) _).setCell (by simp) _).setCell (by simp) _⟩

set_option maxHeartbeats 800000 in
set_option maxRecDepth 100000 in
theorem decode_4 (a b c : Int) (w : World) :
    Calls Try.prog 76 #[.agg #[.int .i64 4, .int .i64 a, .int .i64 b, .int .i64 c]] w (Decoded 4 w) := by
  have hB : Below w.heap.size w ((w.alloc (.cells #[.int .i64 4, .int .i64 a, .int .i64 b, .int .i64 c] 71)).alloc (.cells #[.nilFunc, .nilFunc, .nilFunc] 93)) := ((Below.refl _ _).alloc (Nat.le_refl _) _).alloc (by simp) _
  have qB := (Blk.new 71 [.int .i64 4, .int .i64 a, .int .i64 b, .int .i64 c] w).alloc (.cells #[.nilFunc, .nilFunc, .nilFunc] 93)
  have qD := Blk.new 93 [.nilFunc, .nilFunc, .nilFunc] (w.alloc (.cells #[.int .i64 4, .int .i64 a, .int .i64 b, .int .i64 c] 71))
  rw [gsize_alloc] at qD
  obtain ⟨W, hW⟩ : ∃ W, (w.alloc (.cells #[.int .i64 4, .int .i64 a, .int .i64 b, .int .i64 c] 71)).alloc (.cells #[.nilFunc, .nilFunc, .nilFunc] 93) = W := ⟨_, rfl⟩
  have hW2 := hW
  simp only [List.toArray] at qB qD
  replace qB : Blk 71 w.heap.size [.int .i64 4, .int .i64 a, .int .i64 b, .int .i64 c] W := by rw [← hW]; exact qB
  replace qD : Blk 93 (w.heap.size + 1) [.nilFunc, .nilFunc, .nilFunc] W := by rw [← hW]; exact qD
  rw [hW] at hB
  have HW := Lib.hid hW
  clear hW hW2

  go_enter Try.func76, Try.ntmps76
  go_upto_region 1 with fail
  rw [HW.out]
  go_wp2_with fail
  go_at_call 88
  refine (within_any 0 3 _).mono ?_
  rintro e w1 ⟨fa, rfl, hfa, hb1⟩
  have qB := qB.below hb1
  have qD := qD.below hb1
  have hB := hB.trans (hb1.mono hB.size)
  have y0 : w1.cell? ⟨w.heap.size, 0, none⟩ = some (.int .i64 4) := qB.at rfl
  have d0 := qD.free 0
  have d1 := qD.free 1
  have d2 := qD.free 2
  have hsf := store_func
  have hsn := store_none
  have z0 := qD.at (x := 0) rfl
  have z1 := qD.at (x := 1) rfl
  have z2 := qD.at (x := 2) rfl
  have hfa2 := hfa
  obtain ⟨gfa, lfa, rfl, _, _⟩ := hfa2.shape
  have qE := ((qD.set 0 (.func (.func gfa) #[] lfa)).set 1 (.func (.func 89) #[] #[])).set 2 (.func (.func 89) #[] #[])
  simp only [List.set_cons_zero, List.set_cons_succ] at qE
  have x0 := qE.at (x := 0) rfl
  have x1 := qE.at (x := 1) rfl
  have x2 := qE.at (x := 2) rfl
  have hZ : Below w1.heap.size w1 w1 := Below.refl _ _
  go_wp2
  refine bodyPost_ret (v := .tuple #[.agg #[(.func (.func gfa) #[] lfa), (.func (.func 89) #[] #[]), (.func (.func 89) #[] #[])], .bool true]) (by simp [results, Try.results76, go_sem, x0, x1, x2]) rfl ?_
  exact ⟨_, _, _, rfl, hfa.set3 qD _ _ _, (Or.inr ⟨rfl, rfl, rfl⟩), (Or.inr ⟨rfl, rfl, rfl⟩), ((hB.setCell (by simp) _).setCell (by simp) _).setCell (by simp) _⟩

set_option maxHeartbeats 800000 in
set_option maxRecDepth 100000 in
theorem decode_5 (a b c : Int) (w : World) :
    Calls Try.prog 76 #[.agg #[.int .i64 5, .int .i64 a, .int .i64 b, .int .i64 c]] w (Decoded 5 w) := by
  have hB : Below w.heap.size w ((w.alloc (.cells #[.int .i64 5, .int .i64 a, .int .i64 b, .int .i64 c] 71)).alloc (.cells #[.nilFunc, .nilFunc, .nilFunc] 93)) := ((Below.refl _ _).alloc (Nat.le_refl _) _).alloc (by simp) _
  have qB := (Blk.new 71 [.int .i64 5, .int .i64 a, .int .i64 b, .int .i64 c] w).alloc (.cells #[.nilFunc, .nilFunc, .nilFunc] 93)
  have qD := Blk.new 93 [.nilFunc, .nilFunc, .nilFunc] (w.alloc (.cells #[.int .i64 5, .int .i64 a, .int .i64 b, .int .i64 c] 71))
  rw [gsize_alloc] at qD
  obtain ⟨W, hW⟩ : ∃ W, (w.alloc (.cells #[.int .i64 5, .int .i64 a, .int .i64 b, .int .i64 c] 71)).alloc (.cells #[.nilFunc, .nilFunc, .nilFunc] 93) = W := ⟨_, rfl⟩
  have hW2 := hW
  simp only [List.toArray] at qB qD
  replace qB : Blk 71 w.heap.size [.int .i64 5, .int .i64 a, .int .i64 b, .int .i64 c] W := by rw [← hW]; exact qB
  replace qD : Blk 93 (w.heap.size + 1) [.nilFunc, .nilFunc, .nilFunc] W := by rw [← hW]; exact qD
  rw [hW] at hB
  have HW := Lib.hid hW
  clear hW hW2

  go_enter Try.func76, Try.ntmps76
  go_upto_region 1 with fail
  rw [HW.out]
  go_wp2_with fail
  go_at_call 88
  refine (within_any 0 3 _).mono ?_
  rintro e w1 ⟨fa, rfl, hfa, hb1⟩
  have qB := qB.below hb1
  have qD := qD.below hb1
  have hB := hB.trans (hb1.mono hB.size)
  have y0 : w1.cell? ⟨w.heap.size, 0, none⟩ = some (.int .i64 5) := qB.at rfl
  have d0 := qD.free 0
  have d1 := qD.free 1
  have d2 := qD.free 2
  have hsf := store_func
  have hsn := store_none
  have z0 := qD.at (x := 0) rfl
  have z1 := qD.at (x := 1) rfl
  have z2 := qD.at (x := 2) rfl
  have hfa2 := hfa
  obtain ⟨gfa, lfa, rfl, _, _⟩ := hfa2.shape
  have qE := ((qD.set 0 (.func (.func gfa) #[] lfa)).set 1 (.func (.func gfa) #[] lfa)).set 2 (.func (.func gfa) #[] lfa)
  simp only [List.set_cons_zero, List.set_cons_succ] at qE
  have x0 := qE.at (x := 0) rfl
  have x1 := qE.at (x := 1) rfl
  have x2 := qE.at (x := 2) rfl
  have hZ : Below w1.heap.size w1 w1 := Below.refl _ _
  go_wp2
  refine bodyPost_ret (v := .tuple #[.agg #[(.func (.func gfa) #[] lfa), (.func (.func gfa) #[] lfa), (.func (.func gfa) #[] lfa)], .bool true]) (by simp [results, Try.results76, go_sem, x0, x1, x2]) rfl ?_
  exact ⟨_, _, _, rfl, hfa.set3 qD _ _ _, hfa.set3 qD _ _ _, hfa.set3 qD _ _ _, ((hB.setCell (by simp) _).setCell (by simp) _).setCell (by simp) _⟩

set_option maxHeartbeats 800000 in
set_option maxRecDepth 100000 in
theorem decode_6 (a b c : Int) (w : World) :
    Calls Try.prog 76 #[.agg #[.int .i64 6, .int .i64 a, .int .i64 b, .int .i64 c]] w (Decoded 6 w) := by
  have hB : Below w.heap.size w ((w.alloc (.cells #[.int .i64 6, .int .i64 a, .int .i64 b, .int .i64 c] 71)).alloc (.cells #[.nilFunc, .nilFunc, .nilFunc] 93)) := ((Below.refl _ _).alloc (Nat.le_refl _) _).alloc (by simp) _
  have qB := (Blk.new 71 [.int .i64 6, .int .i64 a, .int .i64 b, .int .i64 c] w).alloc (.cells #[.nilFunc, .nilFunc, .nilFunc] 93)
  have qD := Blk.new 93 [.nilFunc, .nilFunc, .nilFunc] (w.alloc (.cells #[.int .i64 6, .int .i64 a, .int .i64 b, .int .i64 c] 71))
  rw [gsize_alloc] at qD
  obtain ⟨W, hW⟩ : ∃ W, (w.alloc (.cells #[.int .i64 6, .int .i64 a, .int .i64 b, .int .i64 c] 71)).alloc (.cells #[.nilFunc, .nilFunc, .nilFunc] 93) = W := ⟨_, rfl⟩
  have hW2 := hW
  simp only [List.toArray] at qB qD
  replace qB : Blk 71 w.heap.size [.int .i64 6, .int .i64 a, .int .i64 b, .int .i64 c] W := by rw [← hW]; exact qB
  replace qD : Blk 93 (w.heap.size + 1) [.nilFunc, .nilFunc, .nilFunc] W := by rw [← hW]; exact qD
  rw [hW] at hB
  have HW := Lib.hid hW
  clear hW hW2

  go_enter Try.func76, Try.ntmps76
  go_upto_region 1 with fail
  rw [HW.out]
  go_wp2_with fail
  go_at_call 88
  refine (within_any 0 3 _).mono ?_
  rintro e w1 ⟨fa, rfl, hfa, hb1⟩
  have qB := qB.below hb1
  have qD := qD.below hb1
  have hB := hB.trans (hb1.mono hB.size)
  have y0 : w1.cell? ⟨w.heap.size, 0, none⟩ = some (.int .i64 6) := qB.at rfl
  go_wp2_with fail
  go_at_call 88
  refine (within_any 0 3 _).mono ?_
  rintro e w2 ⟨fb, rfl, hfb, hb2⟩
  have qB := qB.below hb2
  have qD := qD.below hb2
  have hB := hB.trans (hb2.mono hB.size)
  have hfa := hfa.below hb2
  have d0 := qD.free 0
  have d1 := qD.free 1
  have d2 := qD.free 2
  have hsf := store_func
  have hsn := store_none
  have z0 := qD.at (x := 0) rfl
  have z1 := qD.at (x := 1) rfl
  have z2 := qD.at (x := 2) rfl
  have hfa2 := hfa
  obtain ⟨gfa, lfa, rfl, _, _⟩ := hfa2.shape
  have hfb2 := hfb
  obtain ⟨gfb, lfb, rfl, _, _⟩ := hfb2.shape
  have qE := ((qD.set 0 (.func (.func gfa) #[] lfa)).set 1 (.func (.func gfb) #[] lfb)).set 2 (.func (.func 89) #[] #[])
  simp only [List.set_cons_zero, List.set_cons_succ] at qE
  have x0 := qE.at (x := 0) rfl
  have x1 := qE.at (x := 1) rfl
  have x2 := qE.at (x := 2) rfl
  have hZ : Below w2.heap.size w2 w2 := Below.refl _ _
  go_wp2
  refine bodyPost_ret (v := .tuple #[.agg #[(.func (.func gfa) #[] lfa), (.func (.func gfb) #[] lfb), (.func (.func 89) #[] #[])], .bool true]) (by simp [results, Try.results76, go_sem, x0, x1, x2]) rfl ?_
  exact ⟨_, _, _, rfl, hfa.set3 qD _ _ _, hfb.set3 qD _ _ _, (Or.inr ⟨rfl, rfl, rfl⟩), ((hB.setCell (by simp) _).setCell (by simp) _).setCell (by simp) _⟩

set_option maxHeartbeats 800000 in
set_option maxRecDepth 100000 in
theorem decode_7 (a b c : Int) (w : World) :
    Calls Try.prog 76 #[.agg #[.int .i64 7, .int .i64 a, .int .i64 b, .int .i64 c]] w (Decoded 7 w) := by
  have hB : Below w.heap.size w ((w.alloc (.cells #[.int .i64 7, .int .i64 a, .int .i64 b, .int .i64 c] 71)).alloc (.cells #[.nilFunc, .nilFunc, .nilFunc] 93)) := ((Below.refl _ _).alloc (Nat.le_refl _) _).alloc (by simp) _
  have qB := (Blk.new 71 [.int .i64 7, .int .i64 a, .int .i64 b, .int .i64 c] w).alloc (.cells #[.nilFunc, .nilFunc, .nilFunc] 93)
  have qD := Blk.new 93 [.nilFunc, .nilFunc, .nilFunc] (w.alloc (.cells #[.int .i64 7, .int .i64 a, .int .i64 b, .int .i64 c] 71))
  rw [gsize_alloc] at qD
  obtain ⟨W, hW⟩ : ∃ W, (w.alloc (.cells #[.int .i64 7, .int .i64 a, .int .i64 b, .int .i64 c] 71)).alloc (.cells #[.nilFunc, .nilFunc, .nilFunc] 93) = W := ⟨_, rfl⟩
  have hW2 := hW
  simp only [List.toArray] at qB qD
  replace qB : Blk 71 w.heap.size [.int .i64 7, .int .i64 a, .int .i64 b, .int .i64 c] W := by rw [← hW]; exact qB
  replace qD : Blk 93 (w.heap.size + 1) [.nilFunc, .nilFunc, .nilFunc] W := by rw [← hW]; exact qD
  rw [hW] at hB
  have HW := Lib.hid hW
  clear hW hW2

  go_enter Try.func76, Try.ntmps76
  go_upto_region 1 with fail
  rw [HW.out]
  go_wp2_with fail
  go_at_call 88
  refine (within_any 0 3 _).mono ?_
  rintro e w1 ⟨fa, rfl, hfa, hb1⟩
  have qB := qB.below hb1
  have qD := qD.below hb1
  have hB := hB.trans (hb1.mono hB.size)
  have y0 : w1.cell? ⟨w.heap.size, 0, none⟩ = some (.int .i64 7) := qB.at rfl
  go_wp2_with fail
  go_at_call 88
  refine (within_any 1 3 _).mono ?_
  rintro e w2 ⟨fb, rfl, hfb, hb2⟩
  have qB := qB.below hb2
  have qD := qD.below hb2
  have hB := hB.trans (hb2.mono hB.size)
  have hfa := hfa.below hb2
  have d0 := qD.free 0
  have d1 := qD.free 1
  have d2 := qD.free 2
  have hsf := store_func
  have hsn := store_none
  have z0 := qD.at (x := 0) rfl
  have z1 := qD.at (x := 1) rfl
  have z2 := qD.at (x := 2) rfl
  have hfa2 := hfa
  obtain ⟨gfa, lfa, rfl, _, _⟩ := hfa2.shape
  have hfb2 := hfb
  obtain ⟨gfb, lfb, rfl, _, _⟩ := hfb2.shape
  have qE := ((qD.set 0 (.func (.func gfa) #[] lfa)).set 1 (.func (.func gfb) #[] lfb)).set 2 (.func (.func 89) #[] #[])
  simp only [List.set_cons_zero, List.set_cons_succ] at qE
  have x0 := qE.at (x := 0) rfl
  have x1 := qE.at (x := 1) rfl
  have x2 := qE.at (x := 2) rfl
  have hZ : Below w2.heap.size w2 w2 := Below.refl _ _
  go_wp2
  refine bodyPost_ret (v := .tuple #[.agg #[(.func (.func gfa) #[] lfa), (.func (.func gfb) #[] lfb), (.func (.func 89) #[] #[])], .bool true]) (by simp [results, Try.results76, go_sem, x0, x1, x2]) rfl ?_
  exact ⟨_, _, _, rfl, hfa.set3 qD _ _ _, hfb.set3 qD _ _ _, (Or.inr ⟨rfl, rfl, rfl⟩), ((hB.setCell (by simp) _).setCell (by simp) _).setCell (by simp) _⟩

set_option maxHeartbeats 800000 in
set_option maxRecDepth 100000 in
theorem decode_8 (a b c : Int) (w : World) :
    Calls Try.prog 76 #[.agg #[.int .i64 8, .int .i64 a, .int .i64 b, .int .i64 c]] w (Decoded 8 w) := by
  have hB : Below w.heap.size w ((w.alloc (.cells #[.int .i64 8, .int .i64 a, .int .i64 b, .int .i64 c] 71)).alloc (.cells #[.nilFunc, .nilFunc, .nilFunc] 93)) := ((Below.refl _ _).alloc (Nat.le_refl _) _).alloc (by simp) _
  have qB := (Blk.new 71 [.int .i64 8, .int .i64 a, .int .i64 b, .int .i64 c] w).alloc (.cells #[.nilFunc, .nilFunc, .nilFunc] 93)
  have qD := Blk.new 93 [.nilFunc, .nilFunc, .nilFunc] (w.alloc (.cells #[.int .i64 8, .int .i64 a, .int .i64 b, .int .i64 c] 71))
  rw [gsize_alloc] at qD
  obtain ⟨W, hW⟩ : ∃ W, (w.alloc (.cells #[.int .i64 8, .int .i64 a, .int .i64 b, .int .i64 c] 71)).alloc (.cells #[.nilFunc, .nilFunc, .nilFunc] 93) = W := ⟨_, rfl⟩
  have hW2 := hW
  simp only [List.toArray] at qB qD
  replace qB : Blk 71 w.heap.size [.int .i64 8, .int .i64 a, .int .i64 b, .int .i64 c] W := by rw [← hW]; exact qB
  replace qD : Blk 93 (w.heap.size + 1) [.nilFunc, .nilFunc, .nilFunc] W := by rw [← hW]; exact qD
  rw [hW] at hB
  have HW := Lib.hid hW
  clear hW hW2

  go_enter Try.func76, Try.ntmps76
  go_upto_region 1 with fail
  rw [HW.out]
  go_wp2_with fail
  go_at_call 88
  refine (within_any 0 3 _).mono ?_
  rintro e w1 ⟨fa, rfl, hfa, hb1⟩
  have qB := qB.below hb1
  have qD := qD.below hb1
  have hB := hB.trans (hb1.mono hB.size)
  have y0 : w1.cell? ⟨w.heap.size, 0, none⟩ = some (.int .i64 8) := qB.at rfl
  go_wp2_with fail
  go_at_call 88
  refine (within_any 0 2 _).mono ?_
  rintro e w2 ⟨fb, rfl, hfb, hb2⟩
  have qB := qB.below hb2
  have qD := qD.below hb2
  have hB := hB.trans (hb2.mono hB.size)
  have hfa := hfa.below hb2
  have d0 := qD.free 0
  have d1 := qD.free 1
  have d2 := qD.free 2
  have hsf := store_func
  have hsn := store_none
  have z0 := qD.at (x := 0) rfl
  have z1 := qD.at (x := 1) rfl
  have z2 := qD.at (x := 2) rfl
  have hfa2 := hfa
  obtain ⟨gfa, lfa, rfl, _, _⟩ := hfa2.shape
  have hfb2 := hfb
  obtain ⟨gfb, lfb, rfl, _, _⟩ := hfb2.shape
  have qE := ((qD.set 0 (.func (.func gfa) #[] lfa)).set 1 (.func (.func gfb) #[] lfb)).set 2 (.func (.func 89) #[] #[])
  simp only [List.set_cons_zero, List.set_cons_succ] at qE
  have x0 := qE.at (x := 0) rfl
  have x1 := qE.at (x := 1) rfl
  have x2 := qE.at (x := 2) rfl
  have hZ : Below w2.heap.size w2 w2 := Below.refl _ _
  go_wp2
  refine bodyPost_ret (v := .tuple #[.agg #[(.func (.func gfa) #[] lfa), (.func (.func gfb) #[] lfb), (.func (.func 89) #[] #[])], .bool true]) (by simp [results, Try.results76, go_sem, x0, x1, x2]) rfl ?_
  exact ⟨_, _, _, rfl, hfa.set3 qD _ _ _, hfb.set3 qD _ _ _, (Or.inr ⟨rfl, rfl, rfl⟩), ((hB.setCell (by simp) _).setCell (by simp) _).setCell (by simp) _⟩

set_option maxHeartbeats 800000 in
set_option maxRecDepth 100000 in
theorem decode_9 (a b c : Int) (w : World) :
    Calls Try.prog 76 #[.agg #[.int .i64 9, .int .i64 a, .int .i64 b, .int .i64 c]] w (Decoded 9 w) := by
  have hB : Below w.heap.size w ((w.alloc (.cells #[.int .i64 9, .int .i64 a, .int .i64 b, .int .i64 c] 71)).alloc (.cells #[.nilFunc, .nilFunc, .nilFunc] 93)) := ((Below.refl _ _).alloc (Nat.le_refl _) _).alloc (by simp) _
  have qB := (Blk.new 71 [.int .i64 9, .int .i64 a, .int .i64 b, .int .i64 c] w).alloc (.cells #[.nilFunc, .nilFunc, .nilFunc] 93)
  have qD := Blk.new 93 [.nilFunc, .nilFunc, .nilFunc] (w.alloc (.cells #[.int .i64 9, .int .i64 a, .int .i64 b, .int .i64 c] 71))
  rw [gsize_alloc] at qD
  obtain ⟨W, hW⟩ : ∃ W, (w.alloc (.cells #[.int .i64 9, .int .i64 a, .int .i64 b, .int .i64 c] 71)).alloc (.cells #[.nilFunc, .nilFunc, .nilFunc] 93) = W := ⟨_, rfl⟩
  have hW2 := hW
  simp only [List.toArray] at qB qD
  replace qB : Blk 71 w.heap.size [.int .i64 9, .int .i64 a, .int .i64 b, .int .i64 c] W := by rw [← hW]; exact qB
  replace qD : Blk 93 (w.heap.size + 1) [.nilFunc, .nilFunc, .nilFunc] W := by rw [← hW]; exact qD
  rw [hW] at hB
  have HW := Lib.hid hW
  clear hW hW2

  go_enter Try.func76, Try.ntmps76
  go_upto_region 1 with fail
  rw [HW.out]
  go_wp2_with fail
  go_at_call 88
  refine (within_any 0 3 _).mono ?_
  rintro e w1 ⟨fa, rfl, hfa, hb1⟩
  have qB := qB.below hb1
  have qD := qD.below hb1
  have hB := hB.trans (hb1.mono hB.size)
  have y0 : w1.cell? ⟨w.heap.size, 0, none⟩ = some (.int .i64 9) := qB.at rfl
  go_wp2_with fail
  go_at_call 88
  refine (within_any 0 2 _).mono ?_
  rintro e w2 ⟨fb, rfl, hfb, hb2⟩
  have qB := qB.below hb2
  have qD := qD.below hb2
  have hB := hB.trans (hb2.mono hB.size)
  have hfa := hfa.below hb2
  have d0 := qD.free 0
  have d1 := qD.free 1
  have d2 := qD.free 2
  have hsf := store_func
  have hsn := store_none
  have z0 := qD.at (x := 0) rfl
  have z1 := qD.at (x := 1) rfl
  have z2 := qD.at (x := 2) rfl
  have hfa2 := hfa
  obtain ⟨gfa, lfa, rfl, _, _⟩ := hfa2.shape
  have hfb2 := hfb
  obtain ⟨gfb, lfb, rfl, _, _⟩ := hfb2.shape
  have qE := ((qD.set 0 (.func (.func gfa) #[] lfa)).set 1 (.func (.func gfb) #[] lfb)).set 2 (.func (.func 89) #[] #[])
  simp only [List.set_cons_zero, List.set_cons_succ] at qE
  have x0 := qE.at (x := 0) rfl
  have x1 := qE.at (x := 1) rfl
  have x2 := qE.at (x := 2) rfl
  have hZ : Below w2.heap.size w2 w2 := Below.refl _ _
  go_wp2
  refine bodyPost_ret (v := .tuple #[.agg #[(.func (.func gfa) #[] lfa), (.func (.func gfb) #[] lfb), (.func (.func 89) #[] #[])], .bool true]) (by simp [results, Try.results76, go_sem, x0, x1, x2]) rfl ?_
  exact ⟨_, _, _, rfl, hfa.set3 qD _ _ _, hfb.set3 qD _ _ _, (Or.inr ⟨rfl, rfl, rfl⟩), ((hB.setCell (by simp) _).setCell (by simp) _).setCell (by simp) _⟩

set_option maxHeartbeats 800000 in
set_option maxRecDepth 100000 in
theorem decode_none (k a b c : Int) (w : World) (hk : k < 1 ∨ 9 < k) :
    Calls Try.prog 76 #[.agg #[.int .i64 k, .int .i64 a, .int .i64 b, .int .i64 c]] w (Decoded k w) := by
  have hB : Below w.heap.size w ((w.alloc (.cells #[.int .i64 k, .int .i64 a, .int .i64 b, .int .i64 c] 71)).alloc (.cells #[.nilFunc, .nilFunc, .nilFunc] 93)) := ((Below.refl _ _).alloc (Nat.le_refl _) _).alloc (by simp) _
  have qB := (Blk.new 71 [.int .i64 k, .int .i64 a, .int .i64 b, .int .i64 c] w).alloc (.cells #[.nilFunc, .nilFunc, .nilFunc] 93)
  have qD := Blk.new 93 [.nilFunc, .nilFunc, .nilFunc] (w.alloc (.cells #[.int .i64 k, .int .i64 a, .int .i64 b, .int .i64 c] 71))
  rw [gsize_alloc] at qD
  obtain ⟨W, hW⟩ : ∃ W, (w.alloc (.cells #[.int .i64 k, .int .i64 a, .int .i64 b, .int .i64 c] 71)).alloc (.cells #[.nilFunc, .nilFunc, .nilFunc] 93) = W := ⟨_, rfl⟩
  have hW2 := hW
  simp only [List.toArray] at qB qD
  replace qB : Blk 71 w.heap.size [.int .i64 k, .int .i64 a, .int .i64 b, .int .i64 c] W := by rw [← hW]; exact qB
  replace qD : Blk 93 (w.heap.size + 1) [.nilFunc, .nilFunc, .nilFunc] W := by rw [← hW]; exact qD
  rw [hW] at hB
  have HW := Lib.hid hW
  clear hW hW2

  have e1 : (k == 1) = false := by simp; omega
  have e2 : (k == 2) = false := by simp; omega
  have e3 : (k == 3) = false := by simp; omega
  have e4 : (k == 4) = false := by simp; omega
  have e5 : (k == 5) = false := by simp; omega
  have e6 : (k == 6) = false := by simp; omega
  have e7 : (k == 7) = false := by simp; omega
  have e8 : (k == 8) = false := by simp; omega
  have e9 : (k == 9) = false := by simp; omega
  go_enter Try.func76, Try.ntmps76
  go_upto_region 1 with fail
  rw [HW.out]
  go_wp2_with fail
  go_at_call 88
  refine (within_any 0 3 _).mono ?_
  rintro e w1 ⟨fa, rfl, hfa, hb1⟩
  have qB := qB.below hb1
  have qD := qD.below hb1
  have hB := hB.trans (hb1.mono hB.size)
  have y0 : w1.cell? ⟨w.heap.size, 0, none⟩ = some (.int .i64 k) := qB.at rfl
  have d0 := qD.free 0
  have d1 := qD.free 1
  have d2 := qD.free 2
  have hsf := store_func
  have hsn := store_none
  have z0 := qD.at (x := 0) rfl
  have z1 := qD.at (x := 1) rfl
  have z2 := qD.at (x := 2) rfl
  have qE := ((qD.set 0 .nilFunc).set 1 .nilFunc).set 2 .nilFunc
  simp only [List.set_cons_zero, List.set_cons_succ] at qE
  have x0 := qE.at (x := 0) rfl
  have x1 := qE.at (x := 1) rfl
  have x2 := qE.at (x := 2) rfl
  go_wp2
  refine bodyPost_ret (v := .tuple #[.agg #[.nilFunc, .nilFunc, .nilFunc], .bool false]) (by simp [results, Try.results76, go_sem, x0, x1, x2]) rfl ?_
  unfold Decoded
  rw [rng_none hk]
  exact ⟨rfl, ((hB.setCell (by simp) _).setCell (by simp) _).setCell (by simp) _⟩

theorem decode_any (k a b c : Int) (w : World) :
    Calls Try.prog 76 #[.agg #[.int .i64 k, .int .i64 a, .int .i64 b, .int .i64 c]] w (Decoded k w) := by
  by_cases hk : 1 ≤ k ∧ k ≤ 9
  · rcases kinds k hk.1 hk.2
    · exact decode_1 a b c w
    · exact decode_2 a b c w
    · exact decode_3 a b c w
    · exact decode_4 a b c w
    · exact decode_5 a b c w
    · exact decode_6 a b c w
    · exact decode_7 a b c w
    · exact decode_8 a b c w
    · exact decode_9 a b c w
  · exact decode_none k a b c w (by omega)

set_option maxHeartbeats 1600000 in
set_option maxRecDepth 100000 in
theorem nearest_any (fa fb fc : Value) (a0 a1 b0 b1 c0 c1 k a b c : Int) (w : World) (ha : Brings fa a0 a1 w) (hb : Brings fb b0 b1 w) (hc : Brings fc c0 c1 w) :
    Calls Try.prog 77 #[.agg #[fa, fb, fc], .agg #[.int .i64 k, .int .i64 a, .int .i64 b, .int .i64 c]] w fun e w' => e = .returned (.agg #[.int .i64 k, .int .i64 (clamp a0 a1 a), .int .i64 (clamp b0 b1 b), .int .i64 (clamp c0 c1 c)]) ∧ Below w.heap.size w w' := by
  obtain ⟨ga, la, rfl, ea, ca⟩ := ha.shape
  obtain ⟨gb, lb, rfl, eb, cb⟩ := hb.shape
  obtain ⟨gc, lc, rfl, ec, cc⟩ := hc.shape
  replace ca := ca a
  replace cb := cb b
  replace cc := cc c
  obtain ⟨x, hx⟩ : ∃ x, clamp a0 a1 a = x := ⟨_, rfl⟩
  obtain ⟨y, hy⟩ : ∃ y, clamp b0 b1 b = y := ⟨_, rfl⟩
  obtain ⟨z, hz⟩ : ∃ z, clamp c0 c1 c = z := ⟨_, rfl⟩
  rw [hx] at ca ⊢
  rw [hy] at cb ⊢
  rw [hz] at cc ⊢
  clear hx hy hz ha hb hc
  obtain ⟨W1, hW1⟩ : ∃ W1, w.alloc (.cells #[.func (.func ga) #[] la, .func (.func gb) #[] lb, .func (.func gc) #[] lc] 93) = W1 := ⟨_, rfl⟩
  obtain ⟨W2, hW2⟩ : ∃ W2, W1.alloc (.cells #[.int .i64 k, .int .i64 a, .int .i64 b, .int .i64 c] 71) = W2 := ⟨_, rfl⟩
  obtain ⟨W3, hW3⟩ : ∃ W3, W2.alloc (.cells #[.int .i64 0, .int .i64 0, .int .i64 0, .int .i64 0] 71) = W3 := ⟨_, rfl⟩
  have h1 : Below w.heap.size w W1 := by rw [← hW1]; exact (Below.refl _ _).alloc (Nat.le_refl _) _
  have s1 : W1.heap.size = w.heap.size + 1 := by rw [← hW1, gsize_alloc]
  have s2 : W2.heap.size = w.heap.size + 1 + 1 := by rw [← hW2, gsize_alloc, s1]
  have h2 : Below w.heap.size w W2 := by rw [← hW2]; exact h1.alloc h1.size _
  have h3 : Below w.heap.size w W3 := by rw [← hW3]; exact h2.alloc h2.size _
  have q1 : Blk 93 w.heap.size [.func (.func ga) #[] la, .func (.func gb) #[] lb, .func (.func gc) #[] lc] W3 := by rw [← hW3, ← hW2, ← hW1]; exact ((Blk.new _ [_, _, _] w).alloc _).alloc _
  have q2 : Blk 71 (w.heap.size + 1) [.int .i64 k, .int .i64 a, .int .i64 b, .int .i64 c] W3 := by rw [← s1, ← hW3, ← hW2]; exact (Blk.new _ [_, _, _, _] W1).alloc _
  have q3 : Blk 71 (w.heap.size + 1 + 1) [.int .i64 0, .int .i64 0, .int .i64 0, .int .i64 0] W3 := by rw [← s2, ← hW3]; exact Blk.new _ [_, _, _, _] W2
  have HW : Hid (((w.alloc (.cells #[.func (.func ga) #[] la, .func (.func gb) #[] lb, .func (.func gc) #[] lc] 93)).alloc (.cells #[.int .i64 k, .int .i64 a, .int .i64 b, .int .i64 c] 71)).alloc (.cells #[.int .i64 0, .int .i64 0, .int .i64 0, .int .i64 0] 71) = W3) := Lib.hid (by rw [hW1, hW2, hW3])
  clear hW1 hW2 hW3 s1 s2 h1 h2
  go_enter Try.func77, Try.ntmps77
  go_upto_region 1 with fail
  rw [HW.out]
  have s9 : W3.drew.cell? ⟨w.heap.size, 0, none⟩ = some (.func (.func ga) #[] la) ∧ W3.drew.cell? ⟨w.heap.size, 1, none⟩ = some (.func (.func gb) #[] lb) ∧ W3.drew.cell? ⟨w.heap.size, 2, none⟩ = some (.func (.func gc) #[] lc) ∧ W3.drew.cell? ⟨w.heap.size + 1, 0, none⟩ = some (.int .i64 k) ∧ W3.drew.cell? ⟨w.heap.size + 1, 1, none⟩ = some (.int .i64 a) ∧ W3.drew.cell? ⟨w.heap.size + 1, 2, none⟩ = some (.int .i64 b) ∧ W3.drew.cell? ⟨w.heap.size + 1, 3, none⟩ = some (.int .i64 c) := ⟨q1.drew.at rfl, q1.drew.at rfl, q1.drew.at rfl, q2.drew.at rfl, q2.drew.at rfl, q2.drew.at rfl, q2.drew.at rfl⟩
  refine wp_region_held_drew (S := (fun w' => w'.cell? ⟨w.heap.size, 0, none⟩ = some (.func (.func ga) #[] la) ∧ w'.cell? ⟨w.heap.size, 1, none⟩ = some (.func (.func gb) #[] lb) ∧ w'.cell? ⟨w.heap.size, 2, none⟩ = some (.func (.func gc) #[] lc) ∧ w'.cell? ⟨w.heap.size + 1, 0, none⟩ = some (.int .i64 k) ∧ w'.cell? ⟨w.heap.size + 1, 1, none⟩ = some (.int .i64 a) ∧ w'.cell? ⟨w.heap.size + 1, 2, none⟩ = some (.int .i64 b) ∧ w'.cell? ⟨w.heap.size + 1, 3, none⟩ = some (.int .i64 c))) (by kernel_rfl) s9 (fun hHeld => ?_)
  refine wpAnyH_take (i := 0) (v := ?va0) (List.getElem?_toArray.trans rfl) (by kernel_rfl) (by kernel_rfl) (by kernel_rfl) (fun _ _ _ h => h) (Or.inl ⟨by rfl, ?ya0⟩) (by assumption) ?ra0
  case ya0 => (intro w hSw; (try dsimp only at hSw); go_simp; try with_reducible rfl)
  try simp only [Act.put, List.setIfInBounds_toArray, List.set_cons_zero, List.set_cons_succ]
  refine wpAnyH_take (i := 1) (v := ?va1) (List.getElem?_toArray.trans rfl) (by kernel_rfl) (by kernel_rfl) (by kernel_rfl) (fun _ _ _ h => h) (Or.inl ⟨by rfl, ?ya1⟩) (by assumption) ?ra1
  case ya1 => (intro w hSw; (try dsimp only at hSw); go_simp; try with_reducible rfl)
  try simp only [Act.put, List.setIfInBounds_toArray, List.set_cons_zero, List.set_cons_succ]
  refine wpAnyH_take (i := 2) (v := ?va2) (List.getElem?_toArray.trans rfl) (by kernel_rfl) (by kernel_rfl) (by kernel_rfl) (fun _ _ _ h => h) (Or.inl ⟨by rfl, ?ya2⟩) (by assumption) ?ra2
  case ya2 => (intro w hSw; (try dsimp only at hSw); go_simp; try with_reducible rfl)
  try simp only [Act.put, List.setIfInBounds_toArray, List.set_cons_zero, List.set_cons_succ]
  refine wpAnyH_take (i := 3) (v := ?va3) (List.getElem?_toArray.trans rfl) (by kernel_rfl) (by kernel_rfl) (by kernel_rfl) (fun _ _ _ h => h) (Or.inl ⟨by rfl, ?ya3⟩) (by assumption) ?ra3
  case ya3 => (intro w hSw; (try dsimp only at hSw); go_simp; try with_reducible rfl)
  try simp only [Act.put, List.setIfInBounds_toArray, List.set_cons_zero, List.set_cons_succ]
  refine wpAnyH_take (i := 4) (v := ?va4) (List.getElem?_toArray.trans rfl) (by kernel_rfl) (by kernel_rfl) (by kernel_rfl) (fun _ _ _ h => h) (Or.inl ⟨by rfl, ?ya4⟩) (by assumption) ?ra4
  case ya4 => (intro w hSw; (try dsimp only at hSw); go_simp; try with_reducible rfl)
  try simp only [Act.put, List.setIfInBounds_toArray, List.set_cons_zero, List.set_cons_succ]
  refine wpAnyH_take (i := 5) (v := ?va5) (List.getElem?_toArray.trans rfl) (by kernel_rfl) (by kernel_rfl) (by kernel_rfl) (fun _ _ _ h => h) (Or.inl ⟨by rfl, ?ya5⟩) (by assumption) ?ra5
  case ya5 => (intro w hSw; (try dsimp only at hSw); go_simp; try with_reducible rfl)
  try simp only [Act.put, List.setIfInBounds_toArray, List.set_cons_zero, List.set_cons_succ]
  refine wpAnyH_take (i := 7) (v := ?va7) (List.getElem?_toArray.trans rfl) (by kernel_rfl) (by kernel_rfl) (by kernel_rfl) (fun _ _ _ h => h) (Or.inl ⟨by rfl, ?ya7⟩) (by assumption) ?ra7
  case ya7 => (intro w hSw; (try dsimp only at hSw); go_simp; try with_reducible rfl)
  try simp only [Act.put, List.setIfInBounds_toArray, List.set_cons_zero, List.set_cons_succ]
  refine wpAnyH_take (i := 8) (v := ?va8) (List.getElem?_toArray.trans rfl) (by kernel_rfl) (by kernel_rfl) (by kernel_rfl) (fun _ _ _ h => h) (Or.inl ⟨by rfl, ?ya8⟩) (by assumption) ?ra8
  case ya8 => (intro w hSw; (try dsimp only at hSw); go_simp; try with_reducible rfl)
  try simp only [Act.put, List.setIfInBounds_toArray, List.set_cons_zero, List.set_cons_succ]
  refine wpAnyH_take (i := 9) (v := ?va9) (List.getElem?_toArray.trans rfl) (by kernel_rfl) (by kernel_rfl) (by kernel_rfl) (fun _ _ _ h => h) (Or.inl ⟨by rfl, ?ya9⟩) (by assumption) ?ra9
  case ya9 => (intro w hSw; (try dsimp only at hSw); go_simp; try with_reducible rfl)
  try simp only [Act.put, List.setIfInBounds_toArray, List.set_cons_zero, List.set_cons_succ]
  refine wpAnyH_take (i := 10) (v := ?va10) (List.getElem?_toArray.trans rfl) (by kernel_rfl) (by kernel_rfl) (by kernel_rfl) (fun _ _ _ h => h) (Or.inl ⟨by rfl, ?ya10⟩) (by assumption) ?ra10
  case ya10 => (intro w hSw; (try dsimp only at hSw); go_simp; try with_reducible rfl)
  try simp only [Act.put, List.setIfInBounds_toArray, List.set_cons_zero, List.set_cons_succ]
  refine wpAnyH_take (i := 12) (v := ?va12) (List.getElem?_toArray.trans rfl) (by kernel_rfl) (by kernel_rfl) (by kernel_rfl) (fun _ _ _ h => h) (Or.inl ⟨by rfl, ?ya12⟩) (by assumption) ?ra12
  case ya12 => (intro w hSw; (try dsimp only at hSw); go_simp; try with_reducible rfl)
  try simp only [Act.put, List.setIfInBounds_toArray, List.set_cons_zero, List.set_cons_succ]
  refine wpAnyH_take (i := 13) (v := ?va13) (List.getElem?_toArray.trans rfl) (by kernel_rfl) (by kernel_rfl) (by kernel_rfl) (fun _ _ _ h => h) (Or.inl ⟨by rfl, ?ya13⟩) (by assumption) ?ra13
  case ya13 => (intro w hSw; (try dsimp only at hSw); go_simp; try with_reducible rfl)
  try simp only [Act.put, List.setIfInBounds_toArray, List.set_cons_zero, List.set_cons_succ]
  refine wpAnyH_take (i := 14) (v := ?va14) (List.getElem?_toArray.trans rfl) (by kernel_rfl) (by kernel_rfl) (by kernel_rfl) (fun _ _ _ h => h) (Or.inl ⟨by rfl, ?ya14⟩) (by assumption) ?ra14
  case ya14 => (intro w hSw; (try dsimp only at hSw); go_simp; try with_reducible rfl)
  try simp only [Act.put, List.setIfInBounds_toArray, List.set_cons_zero, List.set_cons_succ]
  refine wpAnyH_take (i := 15) (v := ?va15) (List.getElem?_toArray.trans rfl) (by kernel_rfl) (by kernel_rfl) (by kernel_rfl) (fun _ _ _ h => h) (Or.inl ⟨by rfl, ?ya15⟩) (by assumption) ?ra15
  case ya15 => (intro w hSw; (try dsimp only at hSw); go_simp; try with_reducible rfl)
  try simp only [Act.put, List.setIfInBounds_toArray, List.set_cons_zero, List.set_cons_succ]
  refine wpAnyH_ready (rs := [6]) (by kernel_rfl) (by simp) ?_
  refine AllReadyH.cons (List.getElem?_toArray.trans rfl) (fun K hK => ?_) AllReadyH.nil
  go_simp
  refine (ca _ (gbelow_drewN h3 1)).mono ?_
  rintro e w1 ⟨rfl, hb1⟩
  have q1 := q1.below (w := W3) (((Below.refl _ _).drew).trans hb1)
  have q2 := q2.below (w := W3) (((Below.refl _ _).drew).trans hb1)
  have q3 := q3.below (w := W3) (((Below.refl _ _).drew).trans hb1)
  have h3 : Below w.heap.size w w1 := (gbelow_drewN h3 1).trans (hb1.mono h3.size)
  have s9 : w1.cell? ⟨w.heap.size, 0, none⟩ = some (.func (.func ga) #[] la) ∧ w1.cell? ⟨w.heap.size, 1, none⟩ = some (.func (.func gb) #[] lb) ∧ w1.cell? ⟨w.heap.size, 2, none⟩ = some (.func (.func gc) #[] lc) ∧ w1.cell? ⟨w.heap.size + 1, 0, none⟩ = some (.int .i64 k) ∧ w1.cell? ⟨w.heap.size + 1, 1, none⟩ = some (.int .i64 a) ∧ w1.cell? ⟨w.heap.size + 1, 2, none⟩ = some (.int .i64 b) ∧ w1.cell? ⟨w.heap.size + 1, 3, none⟩ = some (.int .i64 c) := ⟨q1.at rfl, q1.at rfl, q1.at rfl, q2.at rfl, q2.at rfl, q2.at rfl, q2.at rfl⟩
  refine hK.out _ _ s9 (fun hHeld => ?_)
  clear hK K
  try simp only [Act.put, List.setIfInBounds_toArray, List.set_cons_zero, List.set_cons_succ]
  refine wpAnyH_ready (rs := [11]) (by kernel_rfl) (by simp) ?_
  refine AllReadyH.cons (List.getElem?_toArray.trans rfl) (fun K hK => ?_) AllReadyH.nil
  go_simp
  refine (cb _ h3).mono ?_
  rintro e w2 ⟨rfl, hb2⟩
  have q1 := q1.below (w := w1) hb2
  have q2 := q2.below (w := w1) hb2
  have q3 := q3.below (w := w1) hb2
  have h3 : Below w.heap.size w w2 := h3.trans (hb2.mono h3.size)
  have s9 : w2.cell? ⟨w.heap.size, 0, none⟩ = some (.func (.func ga) #[] la) ∧ w2.cell? ⟨w.heap.size, 1, none⟩ = some (.func (.func gb) #[] lb) ∧ w2.cell? ⟨w.heap.size, 2, none⟩ = some (.func (.func gc) #[] lc) ∧ w2.cell? ⟨w.heap.size + 1, 0, none⟩ = some (.int .i64 k) ∧ w2.cell? ⟨w.heap.size + 1, 1, none⟩ = some (.int .i64 a) ∧ w2.cell? ⟨w.heap.size + 1, 2, none⟩ = some (.int .i64 b) ∧ w2.cell? ⟨w.heap.size + 1, 3, none⟩ = some (.int .i64 c) := ⟨q1.at rfl, q1.at rfl, q1.at rfl, q2.at rfl, q2.at rfl, q2.at rfl, q2.at rfl⟩
  refine hK.out _ _ s9 (fun hHeld => ?_)
  clear hK K
  try simp only [Act.put, List.setIfInBounds_toArray, List.set_cons_zero, List.set_cons_succ]
  refine wpAnyH_ready (rs := [16]) (by kernel_rfl) (by simp) ?_
  refine AllReadyH.cons (List.getElem?_toArray.trans rfl) (fun K hK => ?_) AllReadyH.nil
  go_simp
  refine (cc _ h3).mono ?_
  rintro e w3 ⟨rfl, hb3⟩
  have q1 := q1.below (w := w2) hb3
  have q2 := q2.below (w := w2) hb3
  have q3 := q3.below (w := w2) hb3
  have h3 : Below w.heap.size w w3 := h3.trans (hb3.mono h3.size)
  have s9 : w3.cell? ⟨w.heap.size, 0, none⟩ = some (.func (.func ga) #[] la) ∧ w3.cell? ⟨w.heap.size, 1, none⟩ = some (.func (.func gb) #[] lb) ∧ w3.cell? ⟨w.heap.size, 2, none⟩ = some (.func (.func gc) #[] lc) ∧ w3.cell? ⟨w.heap.size + 1, 0, none⟩ = some (.int .i64 k) ∧ w3.cell? ⟨w.heap.size + 1, 1, none⟩ = some (.int .i64 a) ∧ w3.cell? ⟨w.heap.size + 1, 2, none⟩ = some (.int .i64 b) ∧ w3.cell? ⟨w.heap.size + 1, 3, none⟩ = some (.int .i64 c) := ⟨q1.at rfl, q1.at rfl, q1.at rfl, q2.at rfl, q2.at rfl, q2.at rfl, q2.at rfl⟩
  refine hK.out _ _ s9 (fun hHeld => ?_)
  clear hK K
  try simp only [Act.put, List.setIfInBounds_toArray, List.set_cons_zero, List.set_cons_succ]
  refine wpAnyH_take (i := 17) (v := ?va17) (List.getElem?_toArray.trans rfl) (by kernel_rfl) (by kernel_rfl) (by kernel_rfl) (fun _ _ _ h => h) (Or.inl ⟨by rfl, ?ya17⟩) (by assumption) ?ra17
  case ya17 => (intro w hSw; (try dsimp only at hSw); go_simp; try with_reducible rfl)
  try simp only [Act.put, List.setIfInBounds_toArray, List.set_cons_zero, List.set_cons_succ]
  refine wpAnyH_ready (rs := [18]) (by kernel_rfl) (by simp) ?_
  refine AllReadyH.cons (List.getElem?_toArray.trans rfl) (fun K hK => ?_) AllReadyH.nil
  go_simp
  have z0 := q3.at (x := 0) rfl
  have z1 := q3.at (x := 1) rfl
  have z2 := q3.at (x := 2) rfl
  have z3 := q3.at (x := 3) rfl
  have d0 := q3.free 0
  have d1 := q3.free 1
  have d2 := q3.free 2
  have d3 := q3.free 3
  have q4 := (((q3.set 0 (.int .i64 k)).set 1 (.int .i64 x)).set 2 (.int .i64 y)).set 3 (.int .i64 z)
  simp only [List.set_cons_zero, List.set_cons_succ] at q4
  have p1 := (((q1.other (a := ⟨w.heap.size + 1 + 1, 0, none⟩) (.int .i64 k) (by simp; omega)).other (a := ⟨w.heap.size + 1 + 1, 1, none⟩) (.int .i64 x) (by simp; omega)).other (a := ⟨w.heap.size + 1 + 1, 2, none⟩) (.int .i64 y) (by simp; omega)).other (a := ⟨w.heap.size + 1 + 1, 3, none⟩) (.int .i64 z) (by simp; omega)
  have p2 := (((q2.other (a := ⟨w.heap.size + 1 + 1, 0, none⟩) (.int .i64 k) (by simp)).other (a := ⟨w.heap.size + 1 + 1, 1, none⟩) (.int .i64 x) (by simp)).other (a := ⟨w.heap.size + 1 + 1, 2, none⟩) (.int .i64 y) (by simp)).other (a := ⟨w.heap.size + 1 + 1, 3, none⟩) (.int .i64 z) (by simp)
  have h4 := (((h3.setCell (p := ⟨w.heap.size + 1 + 1, 0, none⟩) (by simp; omega) (.int .i64 k)).setCell (p := ⟨w.heap.size + 1 + 1, 1, none⟩) (by simp; omega) (.int .i64 x)).setCell (p := ⟨w.heap.size + 1 + 1, 2, none⟩) (by simp; omega) (.int .i64 y)).setCell (p := ⟨w.heap.size + 1 + 1, 3, none⟩) (by simp; omega) (.int .i64 z)
  go_simp
  obtain ⟨W4, hW4⟩ : ∃ W4, (((w3.setCell ⟨w.heap.size + 1 + 1, 0, none⟩ (.int .i64 k)).setCell ⟨w.heap.size + 1 + 1, 1, none⟩ (.int .i64 x)).setCell ⟨w.heap.size + 1 + 1, 2, none⟩ (.int .i64 y)).setCell ⟨w.heap.size + 1 + 1, 3, none⟩ (.int .i64 z) = W4 := ⟨_, rfl⟩
  rw [hW4] at q4 p1 p2 h4 ⊢
  have s9 : W4.cell? ⟨w.heap.size, 0, none⟩ = some (.func (.func ga) #[] la) ∧ W4.cell? ⟨w.heap.size, 1, none⟩ = some (.func (.func gb) #[] lb) ∧ W4.cell? ⟨w.heap.size, 2, none⟩ = some (.func (.func gc) #[] lc) ∧ W4.cell? ⟨w.heap.size + 1, 0, none⟩ = some (.int .i64 k) ∧ W4.cell? ⟨w.heap.size + 1, 1, none⟩ = some (.int .i64 a) ∧ W4.cell? ⟨w.heap.size + 1, 2, none⟩ = some (.int .i64 b) ∧ W4.cell? ⟨w.heap.size + 1, 3, none⟩ = some (.int .i64 c) := ⟨p1.at rfl, p1.at rfl, p1.at rfl, p2.at rfl, p2.at rfl, p2.at rfl, p2.at rfl⟩
  refine hK.out _ _ s9 (fun hHeld => ?_)
  clear hK K
  try simp only [Act.put, List.setIfInBounds_toArray, List.set_cons_zero, List.set_cons_succ]
  refine wpAnyH_done (by kernel_rfl) ?_ _

  have g0 := q4.at (x := 0) rfl
  have g1 := q4.at (x := 1) rfl
  have g2 := q4.at (x := 2) rfl
  have g3 := q4.at (x := 3) rfl
  go_wp2
  refine bodyPost_ret (v := .agg #[.int .i64 k, .int .i64 x, .int .i64 y, .int .i64 z]) (by simp [results, Try.results77, go_sem, g0, g1, g2, g3]) rfl ?_
  exact ⟨rfl, h4⟩

theorem eql_op (k a b c k' a' b' c' : Int) (w : World) : (binOp .eql 71 (.agg #[.int .i64 k, .int .i64 a, .int .i64 b, .int .i64 c]) (.agg #[.int .i64 k', .int .i64 a', .int .i64 b', .int .i64 c'])).run Try.prog w = .ok (.bool ((k == k') && ((a == a') && ((b == b') && (c == c'))))) w := by
  obtain ⟨r0, h0⟩ : ∃ r, (k == k') = r := ⟨_, rfl⟩
  obtain ⟨r1, h1⟩ : ∃ r, (a == a') = r := ⟨_, rfl⟩
  obtain ⟨r2, h2⟩ : ∃ r, (b == b') = r := ⟨_, rfl⟩
  obtain ⟨r3, h3⟩ : ∃ r, (c == c') = r := ⟨_, rfl⟩
  rw [h0, h1, h2, h3]
  cases r0 <;> cases r1 <;> cases r2 <;> cases r3 <;> go_simp

theorem ok_clamp {a b c b0 b1 c0 c1 k : Int} (hb : b0 ≤ b1) (hc : c0 ≤ c1) : ((k == k) && ((a == clamp 0 3 a) && ((b == clamp b0 b1 b) && (c == clamp c0 c1 c)))) = okK (some (b0, b1, c0, c1)) a b c := by
  have e : ∀ {lo hi n : Int}, lo ≤ hi → (n == clamp lo hi n) = inR lo hi n := fun {lo hi n} h => by
    have := clamp_same (n := n) h
    cases hr : inR lo hi n with
    | true => rw [hr] at this; simpa using this.2 rfl
    | false => rw [hr] at this; simpa using this
  rw [e (by omega), e hb, e hc]
  simp [okK]
theorem rng_le {k b0 b1 c0 c1 : Int} (h : rng k = some (b0, b1, c0, c1)) : b0 ≤ b1 ∧ c0 ≤ c1 := by
  by_cases hk : 1 ≤ k ∧ k ≤ 9
  · have hk2 := kinds k hk.1 hk.2
    cases hk2 <;> (injection (show some _ = _ from h) with h; simp only [Prod.mk.injEq] at h; omega)
  · rw [rng_none (by omega)] at h; cases h

set_option maxHeartbeats 1600000 in
set_option maxRecDepth 100000 in
theorem op_impl (k a b c : Int) (w : World) :
    Calls Try.prog 48 #[.agg #[.int .i64 k, .int .i64 a, .int .i64 b, .int .i64 c]] w fun e w' => e = .returned (.bool (okK (rng k) a b c)) ∧ Below w.heap.size w w' := by
  obtain ⟨W, hW⟩ : ∃ W, w.alloc (.cells #[.int .i64 k, .int .i64 a, .int .i64 b, .int .i64 c] 71) = W := ⟨_, rfl⟩
  have h1 : Below w.heap.size w W := by rw [← hW]; exact (Below.refl _ _).alloc (Nat.le_refl _) _
  have s1 : W.heap.size = w.heap.size + 1 := by rw [← hW, gsize_alloc]
  have q1 : Blk 71 w.heap.size [.int .i64 k, .int .i64 a, .int .i64 b, .int .i64 c] W := by rw [← hW]; exact Blk.new _ [_, _, _, _] w
  have HW := Lib.hid hW
  have x0 : W.cell? ⟨w.heap.size, 0, none⟩ = some (.int .i64 k) := q1.at rfl
  have x1 : W.cell? ⟨w.heap.size, 1, none⟩ = some (.int .i64 a) := q1.at rfl
  have x2 : W.cell? ⟨w.heap.size, 2, none⟩ = some (.int .i64 b) := q1.at rfl
  have x3 : W.cell? ⟨w.heap.size, 3, none⟩ = some (.int .i64 c) := q1.at rfl
  have hd := decode_any k a b c W
  have hsf := store_func
  have hsn := store_none
  clear hW
  cases hr : rng k with
  | none =>
    have hd : Calls Try.prog 76 #[.agg #[.int .i64 k, .int .i64 a, .int .i64 b, .int .i64 c]] W (fun e w' => e = .returned (.tuple #[.agg #[.nilFunc, .nilFunc, .nilFunc], .bool false]) ∧ Below W.heap.size W w') := hd.mono fun e w' h => by
      unfold Decoded at h
      rw [hr] at h
      exact h
    clear hr
    go_enter Try.func48, Try.ntmps48
    go_upto_region 1 with fail
    rw [HW.out]
    go_wp2_with fail
    go_at_call 76
    refine hd.mono ?_
    rintro e w1 ⟨rfl, hb1⟩
    have h2 := h1.trans (hb1.mono h1.size)
    have h3 := (h2.alloc h2.size (.cells #[.nilFunc, .nilFunc, .nilFunc] 93))
    go_wp2_with fail
    refine wp_region_held_drew (S := (fun _ => True)) (by kernel_rfl) trivial (fun hHeld => ?_)
    refine wpAnyH_take (i := 0) (v := ?vn0) (List.getElem?_toArray.trans rfl) (by kernel_rfl) (by kernel_rfl) (by kernel_rfl) (fun _ _ _ h => h) (Or.inl ⟨by rfl, ?yn0⟩) (by assumption) ?rn0
    case yn0 => (intro w hSw; (try dsimp only at hSw); go_simp; try with_reducible rfl)
    try simp only [Act.put, List.setIfInBounds_toArray, List.set_cons_zero, List.set_cons_succ]
    refine wpAnyH_take (i := 1) (v := ?vn1) (List.getElem?_toArray.trans rfl) (by kernel_rfl) (by kernel_rfl) (by kernel_rfl) (fun _ _ _ h => h) (Or.inl ⟨by rfl, ?yn1⟩) (by assumption) ?rn1
    case yn1 => (intro w hSw; (try dsimp only at hSw); go_simp; try with_reducible rfl)
    try simp only [Act.put, List.setIfInBounds_toArray, List.set_cons_zero, List.set_cons_succ]
    refine wpAnyH_take (i := 2) (v := undef) (List.getElem?_toArray.trans rfl) (by kernel_rfl) (by kernel_rfl) (by kernel_rfl) (fun _ _ _ h => h) (Or.inr ⟨by first | (simp [Region.wanted, yielded]; done) | simp [Region.wanted, yielded, undef], rfl⟩) (by assumption) ?_
    try simp only [Act.put, List.setIfInBounds_toArray, List.set_cons_zero, List.set_cons_succ]
    refine wpAnyH_take (i := 3) (v := undef) (List.getElem?_toArray.trans rfl) (by kernel_rfl) (by kernel_rfl) (by kernel_rfl) (fun _ _ _ h => h) (Or.inr ⟨by first | (simp [Region.wanted, yielded]; done) | simp [Region.wanted, yielded, undef], rfl⟩) (by assumption) ?_
    try simp only [Act.put, List.setIfInBounds_toArray, List.set_cons_zero, List.set_cons_succ]
    refine wpAnyH_take (i := 4) (v := undef) (List.getElem?_toArray.trans rfl) (by kernel_rfl) (by kernel_rfl) (by kernel_rfl) (fun _ _ _ h => h) (Or.inr ⟨by first | (simp [Region.wanted, yielded]; done) | simp [Region.wanted, yielded, undef], rfl⟩) (by assumption) ?_
    try simp only [Act.put, List.setIfInBounds_toArray, List.set_cons_zero, List.set_cons_succ]
    refine wpAnyH_take (i := 5) (v := undef) (List.getElem?_toArray.trans rfl) (by kernel_rfl) (by kernel_rfl) (by kernel_rfl) (fun _ _ _ h => h) (Or.inr ⟨by first | (simp [Region.wanted, yielded]; done) | simp [Region.wanted, yielded, undef], rfl⟩) (by assumption) ?_
    try simp only [Act.put, List.setIfInBounds_toArray, List.set_cons_zero, List.set_cons_succ]
    refine wpAnyH_take (i := 6) (v := undef) (List.getElem?_toArray.trans rfl) (by kernel_rfl) (by kernel_rfl) (by kernel_rfl) (fun _ _ _ h => h) (Or.inr ⟨by first | (simp [Region.wanted, yielded]; done) | simp [Region.wanted, yielded, undef], rfl⟩) (by assumption) ?_
    try simp only [Act.put, List.setIfInBounds_toArray, List.set_cons_zero, List.set_cons_succ]
    refine wpAnyH_take (i := 7) (v := ?vn7) (List.getElem?_toArray.trans rfl) (by kernel_rfl) (by kernel_rfl) (by kernel_rfl) (fun _ _ _ h => h) (Or.inl ⟨by rfl, ?yn7⟩) (by assumption) ?rn7
    case yn7 => (intro w hSw; (try dsimp only at hSw); go_simp; try with_reducible rfl)
    try simp only [Act.put, List.setIfInBounds_toArray, List.set_cons_zero, List.set_cons_succ]
    refine wpAnyH_take (i := 8) (v := ?vn8) (List.getElem?_toArray.trans rfl) (by kernel_rfl) (by kernel_rfl) (by kernel_rfl) (fun _ _ _ h => h) (Or.inl ⟨by rfl, ?yn8⟩) (by assumption) ?rn8
    case yn8 => (intro w hSw; (try dsimp only at hSw); go_simp; try with_reducible rfl)
    try simp only [Act.put, List.setIfInBounds_toArray, List.set_cons_zero, List.set_cons_succ]
    refine wpAnyH_done (by kernel_rfl) ?_ _
    go_wp2
    go_ret
    exact ⟨rfl, gbelow_drewN h3 1⟩
  | some q =>
    obtain ⟨b0, b1, c0, c1⟩ := q
    have hd : Calls Try.prog 76 #[.agg #[.int .i64 k, .int .i64 a, .int .i64 b, .int .i64 c]] W (fun e w' => ∃ fa fb fc, e = .returned (.tuple #[.agg #[fa, fb, fc], .bool true]) ∧ Brings fa 0 3 w' ∧ Brings fb b0 b1 w' ∧ Brings fc c0 c1 w' ∧ Below W.heap.size W w') := hd.mono fun e w' h => by
      unfold Decoded at h
      rw [hr] at h
      exact h
    have hle := rng_le hr
    have HK := Lib.hid (ok_clamp (a := a) (b := b) (c := c) (k := k) hle.1 hle.2)
    clear hr hle
    go_enter Try.func48, Try.ntmps48
    go_upto_region 1 with fail
    rw [HW.out]
    go_wp2_with fail
    go_at_call 76
    refine hd.mono ?_
    rintro e w1 ⟨fa, fb, fc, rfl, ha, hb, hc, hb1⟩
    have q1 := q1.below hb1
    have h2 := h1.trans (hb1.mono h1.size)
    have hN := fun w' (hw : Below w1.heap.size w1 w') => nearest_any fa fb fc 0 3 b0 b1 c0 c1 k a b c w' (ha.below hw) (hb.below hw) (hc.below hw)
    obtain ⟨ga, la, rfl, _, _⟩ := ha.shape
    obtain ⟨gb, lb, rfl, _, _⟩ := hb.shape
    obtain ⟨gc, lc, rfl, _, _⟩ := hc.shape
    clear ha hb hc x0 x1 x2 x3 hd
    have h3 : Below w1.heap.size w1 (w1.alloc (.cells #[.func (.func ga) #[] la, .func (.func gb) #[] lb, .func (.func gc) #[] lc] 93)) := (Below.refl _ _).alloc (Nat.le_refl _) _
    have q2 : Blk 93 w1.heap.size [.func (.func ga) #[] la, .func (.func gb) #[] lb, .func (.func gc) #[] lc] (w1.alloc (.cells #[.func (.func ga) #[] la, .func (.func gb) #[] lb, .func (.func gc) #[] lc] 93)) := Blk.new _ [_, _, _] w1
    obtain ⟨W3, hW3⟩ : ∃ W3, w1.alloc (.cells #[.func (.func ga) #[] la, .func (.func gb) #[] lb, .func (.func gc) #[] lc] 93) = W3 := ⟨_, rfl⟩
    rw [hW3] at h3 q2
    have q1 := q1.below h3
    have HW3 := Lib.hid hW3
    clear hW3
    replace hN := hN W3.drew (gbelow_drewN h3 1)
    have h4 := gbelow_drewN (h2.trans (h3.mono h2.size)) 1
    obtain ⟨x, hx⟩ : ∃ x, clamp 0 3 a = x := ⟨_, rfl⟩
    obtain ⟨y, hy⟩ : ∃ y, clamp b0 b1 b = y := ⟨_, rfl⟩
    obtain ⟨z, hz⟩ : ∃ z, clamp c0 c1 c = z := ⟨_, rfl⟩
    rw [hx, hy, hz] at hN HK
    have he := fun W => eql_op k a b c k x y z W
    clear hx hy hz h1 h2 h3 s1
    go_upto_region 2 with fail
    rw [HW3.out]
    have s9 : W3.drew.cell? ⟨w.heap.size, 0, none⟩ = some (.int .i64 k) ∧ W3.drew.cell? ⟨w.heap.size, 1, none⟩ = some (.int .i64 a) ∧ W3.drew.cell? ⟨w.heap.size, 2, none⟩ = some (.int .i64 b) ∧ W3.drew.cell? ⟨w.heap.size, 3, none⟩ = some (.int .i64 c) ∧ W3.drew.cell? ⟨w1.heap.size, 0, none⟩ = some (.func (.func ga) #[] la) ∧ W3.drew.cell? ⟨w1.heap.size, 1, none⟩ = some (.func (.func gb) #[] lb) ∧ W3.drew.cell? ⟨w1.heap.size, 2, none⟩ = some (.func (.func gc) #[] lc) := ⟨q1.drew.at rfl, q1.drew.at rfl, q1.drew.at rfl, q1.drew.at rfl, q2.drew.at rfl, q2.drew.at rfl, q2.drew.at rfl⟩

    refine wp_region_held_drew (S := (fun w' => w'.cell? ⟨w.heap.size, 0, none⟩ = some (.int .i64 k) ∧ w'.cell? ⟨w.heap.size, 1, none⟩ = some (.int .i64 a) ∧ w'.cell? ⟨w.heap.size, 2, none⟩ = some (.int .i64 b) ∧ w'.cell? ⟨w.heap.size, 3, none⟩ = some (.int .i64 c) ∧ w'.cell? ⟨w1.heap.size, 0, none⟩ = some (.func (.func ga) #[] la) ∧ w'.cell? ⟨w1.heap.size, 1, none⟩ = some (.func (.func gb) #[] lb) ∧ w'.cell? ⟨w1.heap.size, 2, none⟩ = some (.func (.func gc) #[] lc))) (by kernel_rfl) s9 (fun hHeld => ?_)
    refine wpAnyH_take (i := 0) (v := ?vs0) (List.getElem?_toArray.trans rfl) (by kernel_rfl) (by kernel_rfl) (by kernel_rfl) (fun _ _ _ h => h) (Or.inl ⟨by rfl, ?ys0⟩) (by assumption) ?rs0
    case ys0 => (intro w hSw; (try dsimp only at hSw); go_simp; try with_reducible rfl)
    try simp only [Act.put, List.setIfInBounds_toArray, List.set_cons_zero, List.set_cons_succ]
    refine wpAnyH_take (i := 1) (v := ?vs1) (List.getElem?_toArray.trans rfl) (by kernel_rfl) (by kernel_rfl) (by kernel_rfl) (fun _ _ _ h => h) (Or.inl ⟨by rfl, ?ys1⟩) (by assumption) ?rs1
    case ys1 => (intro w hSw; (try dsimp only at hSw); go_simp; try with_reducible rfl)
    try simp only [Act.put, List.setIfInBounds_toArray, List.set_cons_zero, List.set_cons_succ]
    refine wpAnyH_take (i := 2) (v := .agg #[.int .i64 k, .int .i64 a, .int .i64 b, .int .i64 c]) (List.getElem?_toArray.trans rfl) (by kernel_rfl) (by kernel_rfl) (by kernel_rfl) (fun _ _ _ h => h) (Or.inl ⟨by rfl, ?ys2⟩) (by assumption) ?rs2
    case ys2 => (intro w hSw; (try dsimp only at hSw); go_simp; try simp [hSw])
    try simp only [Act.put, List.setIfInBounds_toArray, List.set_cons_zero, List.set_cons_succ]
    refine wpAnyH_take (i := 3) (v := .agg #[.func (.func ga) #[] la, .func (.func gb) #[] lb, .func (.func gc) #[] lc]) (List.getElem?_toArray.trans rfl) (by kernel_rfl) (by kernel_rfl) (by kernel_rfl) (fun _ _ _ h => h) (Or.inl ⟨by rfl, ?ys3⟩) (by assumption) ?rs3
    case ys3 => (intro w hSw; (try dsimp only at hSw); go_simp; try simp [hSw])
    try simp only [Act.put, List.setIfInBounds_toArray, List.set_cons_zero, List.set_cons_succ]
    refine wpAnyH_take (i := 4) (v := .agg #[.int .i64 k, .int .i64 a, .int .i64 b, .int .i64 c]) (List.getElem?_toArray.trans rfl) (by kernel_rfl) (by kernel_rfl) (by kernel_rfl) (fun _ _ _ h => h) (Or.inl ⟨by rfl, ?ys4⟩) (by assumption) ?rs4
    case ys4 => (intro w hSw; (try dsimp only at hSw); go_simp; try simp [hSw])
    try simp only [Act.put, List.setIfInBounds_toArray, List.set_cons_zero, List.set_cons_succ]
    refine wpAnyH_ready (rs := [5]) (by kernel_rfl) (by simp) ?_
    refine AllReadyH.cons (List.getElem?_toArray.trans rfl) (fun K hK => ?_) AllReadyH.nil
    go_simp
    go_at_call 77
    refine hN.mono ?_
    rintro e w4 ⟨rfl, hb4⟩
    have q1 := q1.drew.below hb4
    have q2 := q2.drew.below hb4
    have h5 := h4.trans (hb4.mono h4.size)
    have s9 : w4.cell? ⟨w.heap.size, 0, none⟩ = some (.int .i64 k) ∧ w4.cell? ⟨w.heap.size, 1, none⟩ = some (.int .i64 a) ∧ w4.cell? ⟨w.heap.size, 2, none⟩ = some (.int .i64 b) ∧ w4.cell? ⟨w.heap.size, 3, none⟩ = some (.int .i64 c) ∧ w4.cell? ⟨w1.heap.size, 0, none⟩ = some (.func (.func ga) #[] la) ∧ w4.cell? ⟨w1.heap.size, 1, none⟩ = some (.func (.func gb) #[] lb) ∧ w4.cell? ⟨w1.heap.size, 2, none⟩ = some (.func (.func gc) #[] lc) := ⟨q1.at rfl, q1.at rfl, q1.at rfl, q1.at rfl, q2.at rfl, q2.at rfl, q2.at rfl⟩
    refine hK.out _ _ s9 (fun hHeld => ?_)
    clear hK K
    try simp only [Act.put, List.setIfInBounds_toArray, List.set_cons_zero, List.set_cons_succ]
    refine wpAnyH_take (i := 6) (v := ?vs6) (List.getElem?_toArray.trans rfl) (by kernel_rfl) (by kernel_rfl) (by kernel_rfl) (fun _ _ _ h => h) (Or.inl ⟨by rfl, ?ys6⟩) (by assumption) ?rs6
    case ys6 => (intro w hSw; (try dsimp only at hSw); go_simp; try with_reducible rfl)
    try simp only [Act.put, List.setIfInBounds_toArray, List.set_cons_zero, List.set_cons_succ]
    refine wpAnyH_take (i := 7) (v := ?vs7) (List.getElem?_toArray.trans rfl) (by kernel_rfl) (by kernel_rfl) (by kernel_rfl) (fun _ _ _ h => h) (Or.inl ⟨by rfl, ?ys7⟩) (by assumption) ?rs7
    case ys7 => (intro w hSw; (try dsimp only at hSw); go_simp; try with_reducible rfl)
    try simp only [Act.put, List.setIfInBounds_toArray, List.set_cons_zero, List.set_cons_succ]
    refine wpAnyH_take (i := 8) (v := ?vs8) (List.getElem?_toArray.trans rfl) (by kernel_rfl) (by kernel_rfl) (by kernel_rfl) (fun _ _ _ h => h) (Or.inl ⟨by rfl, ?ys8⟩) (by assumption) ?rs8
    case ys8 => (intro w hSw; (try dsimp only at hSw); go_simp; try with_reducible rfl)
    try simp only [Act.put, List.setIfInBounds_toArray, List.set_cons_zero, List.set_cons_succ]
    refine wpAnyH_done (by kernel_rfl) ?_ _

    go_wp2
    go_ret
    exact ⟨by rw [← HK.out, show (k == k) = true by simp, Bool.true_and]; rfl, h5⟩

end Go.Proofs.Ytbohkohccnieiaa.Scripts
