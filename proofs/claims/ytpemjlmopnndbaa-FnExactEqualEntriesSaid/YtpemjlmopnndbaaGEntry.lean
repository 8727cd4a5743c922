/-
  A struct (Entry): its cells in the words for data of any depth, and the exact laws' helpers at it.
  Conditions: what it leads to lies in memory.
-/
import Derived.Test.YtpemjlmopnndbaaDatInts
import Derived.Test.YtpemjlmopnndbaaBlk
import Derived.Test.YtpemjlmopnndbaaGAddress
import Derived.WalkKit
import Derived.Handy
import Derived.Deep.RegionHeld3
import Derived.Deep.CutBlock
import Derived.Deep.DeepCutAuto
namespace Go.Proofs.Ytpemjlmopnndbaa.Gen
open Go Go.RowKit Go.Proofs.Ytpemjlmopnndbaa.Mem

structure TEntry where
  f0 : Int
  f1 : TAddress
  f2 : Int
def nEntry : TEntry := ⟨0, nAddress, 0⟩
def TEntry.c (P : TEntry) : Nat → Dat
  | 0 => .int P.f0
  | 1 => .int P.f1.f0
  | 2 => .int P.f1.f1
  | 3 => .int P.f1.f2
  | 4 => .int P.f2
  | _ => .int 0
def dEntry (l : List TEntry) : Dat := .row 5 l.length fun i => (l.getD i nEntry).c
/-- The cells of an element. -/
structure CEntry (w : World) (b o : Nat) (P : TEntry)  : Prop where
  c0 : w.cell? ⟨b, o, none⟩ = some (.int .i64 P.f0)
  c1 : w.cell? ⟨b, o + 1, none⟩ = some (.int .i64 P.f1.f0)
  c2 : w.cell? ⟨b, o + 2, none⟩ = some (.int .i64 P.f1.f1)
  c3 : w.cell? ⟨b, o + 3, none⟩ = some (.int .i64 P.f1.f2)
  c4 : w.cell? ⟨b, o + 4, none⟩ = some (.int .i64 P.f2)
section
variable {lo hi b o : Nat} {w w' : World} {P : TEntry} 
theorem CEntry.keep (h : CEntry w b o P ) (hb : w'.heap[b]? = w.heap[b]?) : CEntry w' b o P  :=
  ⟨by rw [Mem.cell_of_heap hb]; exact h.c0, by rw [Mem.cell_of_heap hb]; exact h.c1, by rw [Mem.cell_of_heap hb]; exact h.c2, by rw [Mem.cell_of_heap hb]; exact h.c3, by rw [Mem.cell_of_heap hb]; exact h.c4⟩
theorem CEntry.lt (h : CEntry w b o P ) : b < w.heap.size := Mem.cell_lt h.c0
theorem CEntry.below (h : CEntry w b o P ) (hb : Below w.heap.size w w') : CEntry w' b o P  := h.keep (hb.block _ h.lt)
theorem CEntry.all (h : CEntry w b o P ) : w.cell? ⟨b, o, none⟩ = some (.int .i64 P.f0) ∧ w.cell? ⟨b, o + 1, none⟩ = some (.int .i64 P.f1.f0) ∧ w.cell? ⟨b, o + 2, none⟩ = some (.int .i64 P.f1.f1) ∧ w.cell? ⟨b, o + 3, none⟩ = some (.int .i64 P.f1.f2) ∧ w.cell? ⟨b, o + 4, none⟩ = some (.int .i64 P.f2) := ⟨h.c0, h.c1, h.c2, h.c3, h.c4⟩
end
theorem at_Entry {lo hi : Nat} {w : World} {A : Option Addr} {n c : Nat} {l : List TEntry} (h : Lies lo hi w (dEntry l) (.slice A n c)) {j : Nat} (hj : j < n) :
    ∃ (b off : Nat) , A = some ⟨b, off, none⟩ ∧ lo ≤ b ∧ b < hi ∧ CEntry w b (off + j * 5) (l.getD j nEntry)  ∧ ((Lit.int .i64 (l.getD j nEntry).f0).wf = true ∧ (Lit.int .i64 (l.getD j nEntry).f1.f0).wf = true ∧ (Lit.int .i64 (l.getD j nEntry).f1.f1).wf = true ∧ (Lit.int .i64 (l.getD j nEntry).f1.f2).wf = true ∧ (Lit.int .i64 (l.getD j nEntry).f2).wf = true ∧ True) := by
  obtain ⟨A', c', e, h1, h2, h3⟩ := h
  injection e with e1 e2 e3
  subst e1 e2 e3
  obtain ⟨b, off, rfl, k1, k2, k3⟩ := h3 (by omega)
  have k4 : ∀ x, x < 5 → ∃ u, w.cell? ⟨b, off + j * 5 + x, none⟩ = some u ∧ Lies lo hi w ((l.getD j nEntry).c x) u := fun x hx => k3 j hj x hx
  clear k3 h3
  obtain ⟨P, hP⟩ : ∃ P, l.getD j nEntry = P := ⟨_, rfl⟩
  rw [hP] at k4 ⊢
  obtain ⟨u0, g0, q0⟩ := k4 0 (by omega)
  replace q0 : Lies lo hi w (.int P.f0) u0 := q0
  obtain ⟨rfl, w0⟩ := lies_int q0
  obtain ⟨u1, g1, q1⟩ := k4 1 (by omega)
  replace q1 : Lies lo hi w (.int P.f1.f0) u1 := q1
  obtain ⟨rfl, w1⟩ := lies_int q1
  obtain ⟨u2, g2, q2⟩ := k4 2 (by omega)
  replace q2 : Lies lo hi w (.int P.f1.f1) u2 := q2
  obtain ⟨rfl, w2⟩ := lies_int q2
  obtain ⟨u3, g3, q3⟩ := k4 3 (by omega)
  replace q3 : Lies lo hi w (.int P.f1.f2) u3 := q3
  obtain ⟨rfl, w3⟩ := lies_int q3
  obtain ⟨u4, g4, q4⟩ := k4 4 (by omega)
  replace q4 : Lies lo hi w (.int P.f2) u4 := q4
  obtain ⟨rfl, w4⟩ := lies_int q4
  exact ⟨b, off, rfl, k1, k2, ⟨g0, g1, g2, g3, g4⟩, ⟨w0, w1, w2, w3, w4, trivial⟩⟩
theorem lies_Entry {lo hi : Nat} {w : World} {l : List TEntry} {v : Value} (h : Lies lo hi w (dEntry l) v) : ∃ A c, v = .slice A l.length c := by
  obtain ⟨A, c, e, _⟩ := h; exact ⟨A, c, e⟩
theorem room_Entry (P : TEntry) : sumTo (fun x => room (P.c x)) 5 = 0 := by
  first | (simp [sumTo, TEntry.c, room]; done) | (simp [sumTo, TEntry.c, room]; omega)
theorem ct_Entry (P : TEntry) : sumTo (fun x => ct (P.c x)) 5 = 5 := by
  first | (simp [sumTo, TEntry.c, ct]; done) | (simp [sumTo, TEntry.c, ct]; omega)

set_option maxHeartbeats 1600000 in
set_option maxRecDepth 100000 in
theorem gto_Entry {w : World} (P : TEntry)  :
    Calls Try.prog 15 #[(Value.agg #[.int .i64 P.f0, .int .i64 P.f1.f0, .int .i64 P.f1.f1, .int .i64 P.f1.f2, .int .i64 P.f2])] w fun e w' => e = .returned (Value.agg #[.int .i64 P.f0, .int .i64 P.f1.f0, .int .i64 P.f1.f1, .int .i64 P.f1.f2, .int .i64 P.f2]) ∧ Below w.heap.size w w' := by
  obtain ⟨O1, hO1⟩ : ∃ O, O = Obj.cells #[Value.int .i64 P.f0, .int .i64 P.f1.f0, .int .i64 P.f1.f1, .int .i64 P.f1.f2, .int .i64 P.f2] 40 (0, 0) := ⟨_, rfl⟩
  obtain ⟨O2, hO2⟩ : ∃ O, O = Obj.cells #[Value.int .i64 0, .int .i64 0, .int .i64 0, .int .i64 0, .int .i64 0] 33 (0, 0) := ⟨_, rfl⟩
  obtain ⟨O3, hO3⟩ : ∃ O, O = Obj.cells #[Value.int .i64 P.f0, .int .i64 0, .int .i64 0, .int .i64 0, .int .i64 0] 33 (0, 0) := ⟨_, rfl⟩
  have hB : Below w.heap.size w (((w.alloc O1).alloc O2).alloc O3) := by repeat' (first | exact Below.refl _ _ | assumption | refine Below.setCell ?_ ?_ _ | refine Below.alloc ?_ ?_ _ | refine Gen.gbelow_drewN ?_ _ | refine Below.drew ?_ | exact Nat.le_refl _ | omega | (dsimp only; omega) | refine Gen.gle_alloc ?_ | refine Gen.gle_set ?_ | refine Gen.gle_drewN ?_ | refine Gen.gle_drew ?_)
  have qA : Blk 40 w.heap.size [Value.int .i64 P.f0, .int .i64 P.f1.f0, .int .i64 P.f1.f1, .int .i64 P.f1.f2, .int .i64 P.f2] (((w.alloc O1).alloc O2).alloc O3) := by rw [hO1]; exact ((Blk.new _ _ w).alloc _).alloc _
  have qR : Blk 33 (w.heap.size + 1) [Value.int .i64 0, .int .i64 0, .int .i64 0, .int .i64 0, .int .i64 0] (((w.alloc O1).alloc O2).alloc O3) := by have := (Blk.new 33 [Value.int .i64 0, .int .i64 0, .int .i64 0, .int .i64 0, .int .i64 0] (w.alloc O1)).alloc O3; rw [gsize_alloc] at this; rw [hO2]; exact this
  have qO : Blk 33 (w.heap.size + 1 + 1) [Value.int .i64 P.f0, .int .i64 0, .int .i64 0, .int .i64 0, .int .i64 0] (((w.alloc O1).alloc O2).alloc O3) := by have := Blk.new 33 [Value.int .i64 P.f0, .int .i64 0, .int .i64 0, .int .i64 0, .int .i64 0] ((w.alloc O1).alloc O2); rw [gsize_alloc, gsize_alloc] at this; rw [hO3]; exact this
  have hS : (((w.alloc O1).alloc O2).alloc O3).heap.size = w.heap.size + 3 := by simp only [gsize_alloc]
  subst hO1 hO2 hO3
  go_enter Try.func15, Try.ntmps15
  go_wp2_with fail
  go_at_call 19
  refine Calls.mono (gto_Address P.f1) ?_
  rintro e w1 ⟨rfl, hb⟩
  have qA := qA.below hb
  have qR := qR.below hb
  have qO := qO.below hb
  have hz1 := hb.size
  rw [hS] at hz1
  have hB := hB.trans (hb.mono hB.size)
  clear hb
  clear hS
  have fO := qO.free
  have fR := qR.free
  have ca0 : w1.cell? ⟨w.heap.size, 0, none⟩ = some (.int .i64 P.f0) := qA.at rfl
  have ca1 : w1.cell? ⟨w.heap.size, 1, none⟩ = some (.int .i64 P.f1.f0) := qA.at rfl
  have ca2 : w1.cell? ⟨w.heap.size, 2, none⟩ = some (.int .i64 P.f1.f1) := qA.at rfl
  have ca3 : w1.cell? ⟨w.heap.size, 3, none⟩ = some (.int .i64 P.f1.f2) := qA.at rfl
  have ca4 : w1.cell? ⟨w.heap.size, 4, none⟩ = some (.int .i64 P.f2) := qA.at rfl
  have co0 : w1.cell? ⟨w.heap.size + 1 + 1, 0, none⟩ = some (.int .i64 P.f0) := qO.at rfl
  have cr0 : w1.cell? ⟨w.heap.size + 1, 0, none⟩ = some (.int .i64 0) := qR.at rfl
  have fo0 : w1.frozen? ⟨w.heap.size + 1 + 1, 0, none⟩ = false := fO 0
  have fr0 : w1.frozen? ⟨w.heap.size + 1, 0, none⟩ = false := fR 0
  have co1 : w1.cell? ⟨w.heap.size + 1 + 1, 1, none⟩ = some (.int .i64 0) := qO.at rfl
  have cr1 : w1.cell? ⟨w.heap.size + 1, 1, none⟩ = some (.int .i64 0) := qR.at rfl
  have fo1 : w1.frozen? ⟨w.heap.size + 1 + 1, 1, none⟩ = false := fO 1
  have fr1 : w1.frozen? ⟨w.heap.size + 1, 1, none⟩ = false := fR 1
  have co2 : w1.cell? ⟨w.heap.size + 1 + 1, 2, none⟩ = some (.int .i64 0) := qO.at rfl
  have cr2 : w1.cell? ⟨w.heap.size + 1, 2, none⟩ = some (.int .i64 0) := qR.at rfl
  have fo2 : w1.frozen? ⟨w.heap.size + 1 + 1, 2, none⟩ = false := fO 2
  have fr2 : w1.frozen? ⟨w.heap.size + 1, 2, none⟩ = false := fR 2
  have co3 : w1.cell? ⟨w.heap.size + 1 + 1, 3, none⟩ = some (.int .i64 0) := qO.at rfl
  have cr3 : w1.cell? ⟨w.heap.size + 1, 3, none⟩ = some (.int .i64 0) := qR.at rfl
  have fo3 : w1.frozen? ⟨w.heap.size + 1 + 1, 3, none⟩ = false := fO 3
  have fr3 : w1.frozen? ⟨w.heap.size + 1, 3, none⟩ = false := fR 3
  have co4 : w1.cell? ⟨w.heap.size + 1 + 1, 4, none⟩ = some (.int .i64 0) := qO.at rfl
  have cr4 : w1.cell? ⟨w.heap.size + 1, 4, none⟩ = some (.int .i64 0) := qR.at rfl
  have fo4 : w1.frozen? ⟨w.heap.size + 1 + 1, 4, none⟩ = false := fO 4
  have fr4 : w1.frozen? ⟨w.heap.size + 1, 4, none⟩ = false := fR 4
  go_upto_region 5 with fail
  obtain ⟨V, hV⟩ : ∃ V, V = ((((w1.setCell ⟨w.heap.size + 1 + 1, 1, none⟩ (.int .i64 P.f1.f0)).setCell ⟨w.heap.size + 1 + 1, 2, none⟩ (.int .i64 P.f1.f1)).setCell ⟨w.heap.size + 1 + 1, 3, none⟩ (.int .i64 P.f1.f2)).setCell ⟨w.heap.size + 1 + 1, 4, none⟩ (.int .i64 P.f2)) := ⟨_, rfl⟩
  have hBV : Below w.heap.size w V := by rw [hV]; (iterate 4 (refine Below.setCell ?_ (by dsimp only; omega) _)); exact hB
  have hZV : Zone 0 (w.heap.size + 3) w1 V := by rw [hV]; (iterate 4 (refine Zone.setCell ?_ ⟨by omega, by omega⟩ _)); exact Zone.refl _ _ _
  have hVs : V.heap.size = w1.heap.size := by rw [hV]; simp only [gsize_set]
  have pO : Blk 33 (w.heap.size + 1 + 1) [Value.int .i64 P.f0, .int .i64 P.f1.f0, .int .i64 P.f1.f1, .int .i64 P.f1.f2, .int .i64 P.f2] V := by rw [hV]; exact ((((qO.set 1 (.int .i64 P.f1.f0)).set 2 (.int .i64 P.f1.f1)).set 3 (.int .i64 P.f1.f2)).set 4 (.int .i64 P.f2))
  have pR : Blk 33 (w.heap.size + 1) [Value.int .i64 0, .int .i64 0, .int .i64 0, .int .i64 0, .int .i64 0] V := by rw [hV]; exact ((((qR.other (a := ⟨w.heap.size + 1 + 1, 1, none⟩) (.int .i64 P.f1.f0) (by dsimp only; omega)).other (a := ⟨w.heap.size + 1 + 1, 2, none⟩) (.int .i64 P.f1.f1) (by dsimp only; omega)).other (a := ⟨w.heap.size + 1 + 1, 3, none⟩) (.int .i64 P.f1.f2) (by dsimp only; omega)).other (a := ⟨w.heap.size + 1 + 1, 4, none⟩) (.int .i64 P.f2) (by dsimp only; omega))
  rw [← hV]
  clear hV hZV qA qR qO fO fR ca0 co0 cr0 fo0 fr0 ca1 co1 cr1 fo1 fr1 ca2 co2 cr2 fo2 fr2 ca3 co3 cr3 fo3 fr3 ca4 co4 cr4 fo4 fr4 hB
  have co0 : V.cell? ⟨w.heap.size + 1 + 1, 0, none⟩ = some (.int .i64 P.f0) := pO.at rfl
  have cr0 : V.cell? ⟨w.heap.size + 1, 0, none⟩ = some (.int .i64 0) := pR.at rfl
  have fr0 : V.frozen? ⟨w.heap.size + 1, 0, none⟩ = false := pR.free 0
  have co1 : V.cell? ⟨w.heap.size + 1 + 1, 1, none⟩ = some (.int .i64 P.f1.f0) := pO.at rfl
  have cr1 : V.cell? ⟨w.heap.size + 1, 1, none⟩ = some (.int .i64 0) := pR.at rfl
  have fr1 : V.frozen? ⟨w.heap.size + 1, 1, none⟩ = false := pR.free 1
  have co2 : V.cell? ⟨w.heap.size + 1 + 1, 2, none⟩ = some (.int .i64 P.f1.f1) := pO.at rfl
  have cr2 : V.cell? ⟨w.heap.size + 1, 2, none⟩ = some (.int .i64 0) := pR.at rfl
  have fr2 : V.frozen? ⟨w.heap.size + 1, 2, none⟩ = false := pR.free 2
  have co3 : V.cell? ⟨w.heap.size + 1 + 1, 3, none⟩ = some (.int .i64 P.f1.f2) := pO.at rfl
  have cr3 : V.cell? ⟨w.heap.size + 1, 3, none⟩ = some (.int .i64 0) := pR.at rfl
  have fr3 : V.frozen? ⟨w.heap.size + 1, 3, none⟩ = false := pR.free 3
  have co4 : V.cell? ⟨w.heap.size + 1 + 1, 4, none⟩ = some (.int .i64 P.f2) := pO.at rfl
  have cr4 : V.cell? ⟨w.heap.size + 1, 4, none⟩ = some (.int .i64 0) := pR.at rfl
  have fr4 : V.frozen? ⟨w.heap.size + 1, 4, none⟩ = false := pR.free 4
  go_wp2
  have qF := (((((pR.set 0 (.int .i64 P.f0)).set 1 (.int .i64 P.f1.f0)).set 2 (.int .i64 P.f1.f1)).set 3 (.int .i64 P.f1.f2)).set 4 (.int .i64 P.f2))
  have g0 := qF.at (x := 0) rfl
  have g1 := qF.at (x := 1) rfl
  have g2 := qF.at (x := 2) rfl
  have g3 := qF.at (x := 3) rfl
  have g4 := qF.at (x := 4) rfl
  refine bodyPost_ret (v := (Value.agg #[.int .i64 P.f0, .int .i64 P.f1.f0, .int .i64 P.f1.f1, .int .i64 P.f1.f2, .int .i64 P.f2])) (by simp [results, Try.results15, go_sem, g0, g1, g2, g3, g4]) rfl ⟨rfl, ?_⟩
  iterate 5 (refine Below.setCell ?_ (by dsimp only; omega) _)
  exact hBV


set_option maxHeartbeats 1600000 in
set_option maxRecDepth 100000 in
theorem geq_Entry {w : World} (P : TEntry)    :
    Calls Try.prog 17 #[(Value.agg #[.int .i64 P.f0, .int .i64 P.f1.f0, .int .i64 P.f1.f1, .int .i64 P.f1.f2, .int .i64 P.f2]), (Value.agg #[.int .i64 P.f0, .int .i64 P.f1.f0, .int .i64 P.f1.f1, .int .i64 P.f1.f2, .int .i64 P.f2])] w fun e w' => e = .returned (.bool true) ∧ Below w.heap.size w w' := by
  obtain ⟨O1, hO1⟩ : ∃ O, O = Obj.cells #[Value.int .i64 P.f0, .int .i64 P.f1.f0, .int .i64 P.f1.f1, .int .i64 P.f1.f2, .int .i64 P.f2] 33 (0, 0) := ⟨_, rfl⟩
  obtain ⟨O2, hO2⟩ : ∃ O, O = Obj.cells #[Value.int .i64 P.f0, .int .i64 P.f1.f0, .int .i64 P.f1.f1, .int .i64 P.f1.f2, .int .i64 P.f2] 33 (0, 0) := ⟨_, rfl⟩
  have hB : Below w.heap.size w ((w.alloc O1).alloc O2) := by repeat' (first | exact Below.refl _ _ | assumption | refine Below.setCell ?_ ?_ _ | refine Below.alloc ?_ ?_ _ | refine Gen.gbelow_drewN ?_ _ | refine Below.drew ?_ | exact Nat.le_refl _ | omega | (dsimp only; omega) | refine Gen.gle_alloc ?_ | refine Gen.gle_set ?_ | refine Gen.gle_drewN ?_ | refine Gen.gle_drew ?_)
  have qA : Blk 33 w.heap.size [Value.int .i64 P.f0, .int .i64 P.f1.f0, .int .i64 P.f1.f1, .int .i64 P.f1.f2, .int .i64 P.f2] ((w.alloc O1).alloc O2) := by rw [hO1]; exact (Blk.new _ _ w).alloc _
  have qB : Blk 33 (w.heap.size + 1) [Value.int .i64 P.f0, .int .i64 P.f1.f0, .int .i64 P.f1.f1, .int .i64 P.f1.f2, .int .i64 P.f2] ((w.alloc O1).alloc O2) := by have := Blk.new 33 [Value.int .i64 P.f0, .int .i64 P.f1.f0, .int .i64 P.f1.f1, .int .i64 P.f1.f2, .int .i64 P.f2] (w.alloc O1); rw [gsize_alloc] at this; rw [hO2]; exact this
  subst hO1 hO2
  have ca0 : ((w.alloc (.cells #[Value.int .i64 P.f0, .int .i64 P.f1.f0, .int .i64 P.f1.f1, .int .i64 P.f1.f2, .int .i64 P.f2] 33)).alloc (.cells #[Value.int .i64 P.f0, .int .i64 P.f1.f0, .int .i64 P.f1.f1, .int .i64 P.f1.f2, .int .i64 P.f2] 33)).cell? ⟨w.heap.size, 0, none⟩ = some (.int .i64 P.f0) := qA.at rfl
  have cb0 : ((w.alloc (.cells #[Value.int .i64 P.f0, .int .i64 P.f1.f0, .int .i64 P.f1.f1, .int .i64 P.f1.f2, .int .i64 P.f2] 33)).alloc (.cells #[Value.int .i64 P.f0, .int .i64 P.f1.f0, .int .i64 P.f1.f1, .int .i64 P.f1.f2, .int .i64 P.f2] 33)).cell? ⟨w.heap.size + 1, 0, none⟩ = some (.int .i64 P.f0) := qB.at rfl
  have ca1 : ((w.alloc (.cells #[Value.int .i64 P.f0, .int .i64 P.f1.f0, .int .i64 P.f1.f1, .int .i64 P.f1.f2, .int .i64 P.f2] 33)).alloc (.cells #[Value.int .i64 P.f0, .int .i64 P.f1.f0, .int .i64 P.f1.f1, .int .i64 P.f1.f2, .int .i64 P.f2] 33)).cell? ⟨w.heap.size, 1, none⟩ = some (.int .i64 P.f1.f0) := qA.at rfl
  have cb1 : ((w.alloc (.cells #[Value.int .i64 P.f0, .int .i64 P.f1.f0, .int .i64 P.f1.f1, .int .i64 P.f1.f2, .int .i64 P.f2] 33)).alloc (.cells #[Value.int .i64 P.f0, .int .i64 P.f1.f0, .int .i64 P.f1.f1, .int .i64 P.f1.f2, .int .i64 P.f2] 33)).cell? ⟨w.heap.size + 1, 1, none⟩ = some (.int .i64 P.f1.f0) := qB.at rfl
  have ca2 : ((w.alloc (.cells #[Value.int .i64 P.f0, .int .i64 P.f1.f0, .int .i64 P.f1.f1, .int .i64 P.f1.f2, .int .i64 P.f2] 33)).alloc (.cells #[Value.int .i64 P.f0, .int .i64 P.f1.f0, .int .i64 P.f1.f1, .int .i64 P.f1.f2, .int .i64 P.f2] 33)).cell? ⟨w.heap.size, 2, none⟩ = some (.int .i64 P.f1.f1) := qA.at rfl
  have cb2 : ((w.alloc (.cells #[Value.int .i64 P.f0, .int .i64 P.f1.f0, .int .i64 P.f1.f1, .int .i64 P.f1.f2, .int .i64 P.f2] 33)).alloc (.cells #[Value.int .i64 P.f0, .int .i64 P.f1.f0, .int .i64 P.f1.f1, .int .i64 P.f1.f2, .int .i64 P.f2] 33)).cell? ⟨w.heap.size + 1, 2, none⟩ = some (.int .i64 P.f1.f1) := qB.at rfl
  have ca3 : ((w.alloc (.cells #[Value.int .i64 P.f0, .int .i64 P.f1.f0, .int .i64 P.f1.f1, .int .i64 P.f1.f2, .int .i64 P.f2] 33)).alloc (.cells #[Value.int .i64 P.f0, .int .i64 P.f1.f0, .int .i64 P.f1.f1, .int .i64 P.f1.f2, .int .i64 P.f2] 33)).cell? ⟨w.heap.size, 3, none⟩ = some (.int .i64 P.f1.f2) := qA.at rfl
  have cb3 : ((w.alloc (.cells #[Value.int .i64 P.f0, .int .i64 P.f1.f0, .int .i64 P.f1.f1, .int .i64 P.f1.f2, .int .i64 P.f2] 33)).alloc (.cells #[Value.int .i64 P.f0, .int .i64 P.f1.f0, .int .i64 P.f1.f1, .int .i64 P.f1.f2, .int .i64 P.f2] 33)).cell? ⟨w.heap.size + 1, 3, none⟩ = some (.int .i64 P.f1.f2) := qB.at rfl
  have ca4 : ((w.alloc (.cells #[Value.int .i64 P.f0, .int .i64 P.f1.f0, .int .i64 P.f1.f1, .int .i64 P.f1.f2, .int .i64 P.f2] 33)).alloc (.cells #[Value.int .i64 P.f0, .int .i64 P.f1.f0, .int .i64 P.f1.f1, .int .i64 P.f1.f2, .int .i64 P.f2] 33)).cell? ⟨w.heap.size, 4, none⟩ = some (.int .i64 P.f2) := qA.at rfl
  have cb4 : ((w.alloc (.cells #[Value.int .i64 P.f0, .int .i64 P.f1.f0, .int .i64 P.f1.f1, .int .i64 P.f1.f2, .int .i64 P.f2] 33)).alloc (.cells #[Value.int .i64 P.f0, .int .i64 P.f1.f0, .int .i64 P.f1.f1, .int .i64 P.f1.f2, .int .i64 P.f2] 33)).cell? ⟨w.heap.size + 1, 4, none⟩ = some (.int .i64 P.f2) := qB.at rfl
  go_enter Try.func17, Try.ntmps17
  go_wp2_with fail
  go_at_call 23
  refine Calls.mono (geq_Address P.f1) ?_
  rintro e w1 ⟨rfl, hb⟩
  have qA := qA.below hb
  have qB := qB.below hb
  have hB := hB.trans (hb.mono hB.size)
  clear hb
  clear ca0 cb0 ca1 cb1 ca2 cb2 ca3 cb3 ca4 cb4
  have ca0 : w1.cell? ⟨w.heap.size, 0, none⟩ = some (.int .i64 P.f0) := qA.at rfl
  have cb0 : w1.cell? ⟨w.heap.size + 1, 0, none⟩ = some (.int .i64 P.f0) := qB.at rfl
  have ca1 : w1.cell? ⟨w.heap.size, 1, none⟩ = some (.int .i64 P.f1.f0) := qA.at rfl
  have cb1 : w1.cell? ⟨w.heap.size + 1, 1, none⟩ = some (.int .i64 P.f1.f0) := qB.at rfl
  have ca2 : w1.cell? ⟨w.heap.size, 2, none⟩ = some (.int .i64 P.f1.f1) := qA.at rfl
  have cb2 : w1.cell? ⟨w.heap.size + 1, 2, none⟩ = some (.int .i64 P.f1.f1) := qB.at rfl
  have ca3 : w1.cell? ⟨w.heap.size, 3, none⟩ = some (.int .i64 P.f1.f2) := qA.at rfl
  have cb3 : w1.cell? ⟨w.heap.size + 1, 3, none⟩ = some (.int .i64 P.f1.f2) := qB.at rfl
  have ca4 : w1.cell? ⟨w.heap.size, 4, none⟩ = some (.int .i64 P.f2) := qA.at rfl
  have cb4 : w1.cell? ⟨w.heap.size + 1, 4, none⟩ = some (.int .i64 P.f2) := qB.at rfl
  go_wp2
  go_ret
  exact ⟨rfl, hB⟩

theorem infoEntry : (Try.prog.info? 33).map (fun i => (i.zero, i.size, i.bytes)) = some (some (.agg #[.int .i64 0, .int .i64 0, .int .i64 0, .int .i64 0, .int .i64 0]), 5, 40) := by kernel_rfl
theorem putL_Entry (w : World) (b o : Nat) (a0 a1 a2 a3 a4 : Value) : putL w b o [a0, a1, a2, a3, a4] = ((((w.setCell ⟨b, o, none⟩ a0).setCell ⟨b, o + 1, none⟩ a1).setCell ⟨b, o + 2, none⟩ a2).setCell ⟨b, o + 3, none⟩ a3).setCell ⟨b, o + 4, none⟩ a4 := rfl
theorem ctb_EntryS (l : List TEntry) : ct (dEntry l) ≤ 64 * room (dEntry l) := by
  refine ct_le_room (by omega) fun i _ => ?_
  have h1 := ct_Entry (l.getD i nEntry)
  have h2 := room_Entry (l.getD i nEntry)
  show sumTo (fun x => ct ((l.getD i nEntry).c x)) 5 ≤ 5 + 64 * sumTo (fun x => room ((l.getD i nEntry).c x)) 5
  omega
set_option maxHeartbeats 1600000 in
set_option maxRecDepth 100000 in
theorem gto_EntryS {lo hi : Nat} {w : World} {l : List TEntry} {v : Value} (h : Lies lo hi w (dEntry l) v) (hh : hi ≤ w.heap.size) (hm : room (dEntry l) ≤ 1073741824) :
    Calls Try.prog 7 #[v] w (Given w.heap.size (dEntry l) w) := by
  obtain ⟨A, c, rfl⟩ := lies_Entry h
  obtain ⟨i0, hi0, hz0, hz1, hz2⟩ := info_parts infoEntry
  obtain ⟨n, hn⟩ : ∃ n, l.length = n := ⟨_, rfl⟩
  have hrm : ∀ j, j < n → sumTo (fun x => room ((l.getD j nEntry).c x)) 5 ≤ 1073741824 := fun j hj => Nat.le_trans (room_at (f := fun i => (l.getD i nEntry).c) (by rw [hn]; exact hj)) hm
  have hnm : n ≤ 1073741824 := by
    have : room (dEntry l) = l.length + _ := rfl
    omega
  have hd : dEntry l = .row 5 n (fun i => (l.getD i nEntry).c) := by unfold dEntry; rw [hn]
  rw [hn] at h ⊢
  have HD := Lib.hid hd
  have HM := Lib.hid hrm
  clear hm hd hn hrm
  go_enter Try.func7, Try.ntmps7
  go_wp2_with (refine wpList_make_full _ rfl _ _ 25 rfl w.heap.size 33 i0 (.agg #[.int .i64 0, .int .i64 0, .int .i64 0, .int .i64 0, .int .i64 0]) 5 Try.underlying25 hi0 hz0 hz1 _ _ _ _ n rfl rfl rfl rfl ?c1 ?c2 ?c3 ?_; (case c1 => rw [hz2]; omega); (case c2 => unfold maxLen; omega); (case c3 => exact Nat.le_refl _); intro w1 hown hgr)
  have hb1 : Below w.heap.size w w1 := (Below.refl _ _).grown hgr (Nat.le_refl _) (fun _ h => by cases h)
  have hf1 : Fill w.heap.size n 5 (fun i => (l.getD i nEntry).c) 0 w1 := Fill.start hown
  clear hown hgr
  go_loopw [4] (fun i wr => ∃ j : Nat, j ≤ n ∧ i = .int .i64 j ∧ Fill w.heap.size n 5 (fun i => (l.getD i nEntry).c) j wr ∧ Below w.heap.size w wr) (fun i _ => n - (intOf i).toNat)
  case atStart => exact ⟨0, Nat.zero_le _, rfl, hf1, hb1⟩
  case round =>
    obtain ⟨j, hj, rfl, hf, hb⟩ := hrel
    clear hf1 hb1
    by_cases hlt : j < n
    · have hbs := hb.size
      obtain ⟨b, off, rfl, _, _, hc, hw⟩ := at_Entry (h.under hb hh) hlt
      have hrj := HM.out j hlt
      rw [room_Entry] at hrj
      obtain ⟨P, hP⟩ : ∃ P, l.getD j nEntry = P := ⟨_, rfl⟩
      have hDj : (fun i => (l.getD i nEntry).c) j = P.c := by show (l.getD j nEntry).c = _; rw [hP]
      rw [hP] at hc hw
      have HDj := Lib.hid hDj
      clear hP hDj hrj
      have z0 := hc.c0
      have z1 := hc.c1
      have z2 := hc.c2
      have z3 := hc.c3
      have z4 := hc.c4
      clear hc
      go_wp2_with fail
      go_at_call 15
      refine Calls.mono (gto_Entry P) ?_
      rintro e w2 ⟨rfl, hb2⟩
      have hbz := hb2.size
      have hFr : Fresh wr.heap.size w2.heap.size 5 (fun _ _ => False) (fun x => P.c x) [Value.int .i64 P.f0, .int .i64 P.f1.f0, .int .i64 P.f1.f1, .int .i64 P.f1.f2, .int .i64 P.f2] w2 := by
        refine ⟨rfl, fun x t hx hg => ?_, fun x y t hx hy hg hg' => ?_, fun x hx => ?_⟩
        · have hx' : x = 0 ∨ x = 1 ∨ x = 2 ∨ x = 3 ∨ x = 4 := by omega
          rcases hx' with rfl | rfl | rfl | rfl | rfl
          · exact hg.elim
          · exact hg.elim
          · exact hg.elim
          · exact hg.elim
          · exact hg.elim
        · have hx' : x = 0 ∨ x = 1 ∨ x = 2 ∨ x = 3 ∨ x = 4 := by omega
          rcases hx' with rfl | rfl | rfl | rfl | rfl
          · exact hg.elim
          · exact hg.elim
          · exact hg.elim
          · exact hg.elim
          · exact hg.elim
        · have hx' : x = 0 ∨ x = 1 ∨ x = 2 ∨ x = 3 ∨ x = 4 := by omega
          rcases hx' with rfl | rfl | rfl | rfl | rfl
          · exact ⟨_, rfl, rfl, hw.1⟩
          · exact ⟨_, rfl, rfl, hw.2.1⟩
          · exact ⟨_, rfl, rfl, hw.2.2.1⟩
          · exact ⟨_, rfl, rfl, hw.2.2.2.1⟩
          · exact ⟨_, rfl, rfl, hw.2.2.2.2.1⟩
      have hf3 := hf.next hb2 hlt (by rw [HDj.out]; exact hFr)
      have hf2 := hf.below hb2
      have hb3 := hb.trans (hb2.mono hbs)
      have hp3 := putL_below (Nat.le_refl _) [Value.int .i64 P.f0, .int .i64 P.f1.f0, .int .i64 P.f1.f1, .int .i64 P.f1.f2, .int .i64 P.f2] _ (j * 5) hb3
      rw [putL_Entry] at hf3 hp3
      clear hf hFr hw
      clear z0 z1 z2 z3 z4
      obtain ⟨⟨v0, d0⟩, f0⟩ := hf2.rest (j * 5) (by omega)
      obtain ⟨⟨v1, d1⟩, f1⟩ := hf2.rest (j * 5 + 1) (by omega)
      obtain ⟨⟨v2, d2⟩, f2⟩ := hf2.rest (j * 5 + 2) (by omega)
      obtain ⟨⟨v3, d3⟩, f3⟩ := hf2.rest (j * 5 + 3) (by omega)
      obtain ⟨⟨v4, d4⟩, f4⟩ := hf2.rest (j * 5 + 4) (by omega)
      go_wp2
      go_roundw
      case rel => exact ⟨j + 1, by omega, by go_num, hf3, hp3⟩
      case measure => simp [intOf]; omega
    · have hd : decide ((j : Int) < (n : Int)) = false := by simp; omega
      have HE := Lib.hid (show j = n by omega)
      go_wp2
      go_ret
      have h1 := hf
      rw [HE.out] at h1
      exact ⟨_, rfl, by rw [HD.out]; exact h1.own (by unfold maxLen; omega), hb⟩
set_option maxHeartbeats 1600000 in
set_option maxRecDepth 100000 in
theorem gsz_EntryS {lo hi : Nat} {w : World} {l : List TEntry} {v : Value} (h : Lies lo hi w (dEntry l) v) (_hh : hi ≤ w.heap.size) (q : Int) (hl : 0 ≤ q) (hl' : q ≤ 1048576) :
    Calls Try.prog 5 #[v, .int .i64 q] w fun e w' => e = .returned (.int .i64 (left q (room (dEntry l)))) ∧ Below w.heap.size w w' := by
  obtain ⟨A, c, rfl⟩ := lies_Entry h
  obtain ⟨hnc, hcm⟩ : l.length ≤ c ∧ c ≤ maxLen := by obtain ⟨_, _, e, h1, h2, _⟩ := h; injection e with e1 e2 e3; subst e3; exact ⟨h1, h2⟩
  unfold maxLen at hcm
  obtain ⟨g, hg⟩ : ∃ g : Nat → Nat, g = fun i => sumTo (fun x => room ((l.getD i nEntry).c x)) 5 := ⟨_, rfl⟩
  have hroom : room (dEntry l) = l.length + sumTo g l.length := by rw [hg]; rfl
  have hgz : ∀ i, g i = sumTo (fun x => room ((l.getD i nEntry).c x)) 5 := fun i => by rw [hg]
  obtain ⟨n, hn⟩ : ∃ n, l.length = n := ⟨_, rfl⟩
  rw [hn] at hroom hnc ⊢
  rw [hn] at h
  obtain ⟨T, hT⟩ : ∃ T, left q (room (dEntry l)) = T := ⟨_, rfl⟩
  rw [hT]
  rw [hroom] at hT
  have HT := Lib.hid hT
  have HG := Lib.hid hgz
  have e1 : IntKind.wrap .i64 (q - n) = q - n := by rw [IntKind.wrap_i64]; omega
  clear hT hroom hg hn hgz
  by_cases h0 : (n : Int) ≤ q
  rotate_left
  · have d : decide (q - (n : Int) < 0) = true := by simp; omega
    have hT : T = -1 := by rw [← HT.out]; exact left_none (by omega)
    go_enter Try.func5, Try.ntmps5
    go_wp2
    go_ret
    exact ⟨by first | (rw [hT]; rfl) | rfl, Below.refl _ _⟩
  have d : decide (q - (n : Int) < 0) = false := by simp; omega
  have hT : T = q - n := by
    rw [← HT.out]
    have hz : ∀ m, sumTo g m = 0 := fun m => by induction m with
      | zero => rfl
      | succ m ih => simp only [sumTo]; rw [ih, HG.out, room_Entry]
    rw [hz, Nat.add_zero]
    exact left_some h0
  go_enter Try.func5, Try.ntmps5
  go_wp2
  go_ret
  exact ⟨by first | (rw [hT]; rfl) | rfl, Below.refl _ _⟩
set_option maxHeartbeats 1600000 in
set_option maxRecDepth 100000 in
theorem geq_EntryS {x1 y1 x2 y2 : Nat} {w : World} {l : List TEntry} {v v' : Value} (h : Lies x1 y1 w (dEntry l) v) (h' : Lies x2 y2 w (dEntry l) v') (s1 : y1 ≤ w.heap.size) (s2 : y2 ≤ w.heap.size) :
    Calls Try.prog 9 #[v, v'] w fun e w' => e = .returned (.bool true) ∧ Below w.heap.size w w' := by
  obtain ⟨A, c, rfl⟩ := lies_Entry h
  obtain ⟨A', c', rfl⟩ := lies_Entry h'
  have hcm : l.length ≤ maxLen := by obtain ⟨_, _, e, h1, h2, _⟩ := h; exact Nat.le_trans h1 h2
  unfold maxLen at hcm
  obtain ⟨n, hn⟩ : ∃ n, l.length = n := ⟨_, rfl⟩
  rw [hn] at h h' hcm ⊢
  clear hn
  go_enter Try.func9, Try.ntmps9
  go_wp2
  go_loopw [5] (fun i wr => ∃ j : Nat, j ≤ n ∧ i = .int .i64 j ∧ Below w.heap.size w wr) (fun i _ => n - (intOf i).toNat)
  case atStart => exact ⟨0, Nat.zero_le _, rfl, Below.refl _ _⟩
  case round =>
    obtain ⟨j, hj, rfl, hbl⟩ := hrel
    by_cases hlt : j < n
    · have hbs := hbl.size
      obtain ⟨bu, offu, rfl, _, _, hcu, hwu⟩ := at_Entry (h.under hbl s1) hlt
      obtain ⟨bt, offt, rfl, _, _, hct, hwt⟩ := at_Entry (h'.under hbl s2) hlt
      obtain ⟨P, hP⟩ : ∃ P, l.getD j nEntry = P := ⟨_, rfl⟩
      rw [hP] at hcu hct
      have u1 := hcu.keep (w' := wr.drew) rfl
      have u2 := hct.keep (w' := wr.drew) rfl
      have hE := geq_Entry (w := wr.drew) P
      clear hP hwu hwt h h'
      have s9 := u1.all
      have t9 := u2.all
      obtain ⟨x0, x1, x2, x3, x4⟩ := hcu.all
      obtain ⟨y0, y1, y2, y3, y4⟩ := hct.all
      go_wp2_with fail
      go_region_held3 (fun w' => (w'.cell? ⟨bu, offu + j * 5, none⟩ = some (.int .i64 P.f0) ∧ w'.cell? ⟨bu, offu + j * 5 + 1, none⟩ = some (.int .i64 P.f1.f0) ∧ w'.cell? ⟨bu, offu + j * 5 + 2, none⟩ = some (.int .i64 P.f1.f1) ∧ w'.cell? ⟨bu, offu + j * 5 + 3, none⟩ = some (.int .i64 P.f1.f2) ∧ w'.cell? ⟨bu, offu + j * 5 + 4, none⟩ = some (.int .i64 P.f2)) ∧ (w'.cell? ⟨bt, offt + j * 5, none⟩ = some (.int .i64 P.f0) ∧ w'.cell? ⟨bt, offt + j * 5 + 1, none⟩ = some (.int .i64 P.f1.f0) ∧ w'.cell? ⟨bt, offt + j * 5 + 2, none⟩ = some (.int .i64 P.f1.f1) ∧ w'.cell? ⟨bt, offt + j * 5 + 3, none⟩ = some (.int .i64 P.f1.f2) ∧ w'.cell? ⟨bt, offt + j * 5 + 4, none⟩ = some (.int .i64 P.f2)))
        (first | exact r9 | assumption | go_keep)
        (first | (go_at_call 17; refine hE.mono ?_; rintro e w9 ⟨rfl, hb9⟩; have r9 := And.intro (u1.below hb9).all (u2.below hb9).all))
      all_goals
        go_wp2
        go_roundw
        case rel => exact ⟨j + 1, by omega, by go_num, hbl.drew.trans (hb9.mono hbl.drew.size)⟩
        case measure => simp [intOf]; omega
    · have hd : decide ((j : Int) < (n : Int)) = false := by simp; omega
      go_wp2
      go_ret
      exact ⟨rfl, hbl⟩
theorem lies_mk_Entry {lo hi m : Nat} {w : World} {l : List TEntry} {v : Value} (h : Lies lo hi w (mk m (dEntry l)) v) : ∃ A c, v = .slice A l.length c := by
  obtain ⟨A, c, e, _⟩ := h; exact ⟨A, c, e⟩
end Go.Proofs.Ytpemjlmopnndbaa.Gen
