/-
  A struct (Visit): its cells in the words for data of any depth, and the exact laws' helpers at it.
  Conditions: what it leads to lies in memory.
-/
import Derived.Test.YtagnhfalmefbhaaDatInts
import Derived.Test.YtagnhfalmefbhaaBlk
import Derived.Test.YtagnhfalmefbhaaGVersion
import Derived.WalkKit
import Derived.Handy
import Derived.Deep.RegionHeld3
import Derived.Deep.CutBlock
import Derived.Deep.DeepCutAuto
namespace Go.Proofs.Ytagnhfalmefbhaa.Gen
open Go Go.RowKit Go.Proofs.Ytagnhfalmefbhaa.Mem

structure TVisit where
  f0 : List TVersion
  f1 : Int
  f2 : Int
  f3 : List Int
def nVisit : TVisit := ⟨[], 0, 0, []⟩
def TVisit.c (P : TVisit) : Nat → Dat
  | 0 => dVersion P.f0
  | 1 => .int P.f1
  | 2 => .int P.f2
  | 3 => ints P.f3
  | _ => .int 0
def dVisit (l : List TVisit) : Dat := .row 4 l.length fun i => (l.getD i nVisit).c
/-- The cells of an element. -/
structure CVisit (w : World) (b o : Nat) (P : TVisit) (A0 : Option Addr) (c0 : Nat) (A3 : Option Addr) (c3 : Nat) : Prop where
  c0' : w.cell? ⟨b, o, none⟩ = some (.slice A0 P.f0.length c0)
  c1 : w.cell? ⟨b, o + 1, none⟩ = some (.int .i64 P.f1)
  c2 : w.cell? ⟨b, o + 2, none⟩ = some (.int .i64 P.f2)
  c3' : w.cell? ⟨b, o + 3, none⟩ = some (.slice A3 P.f3.length c3)
section
variable {lo hi b o : Nat} {w w' : World} {P : TVisit} {A0 : Option Addr} {c0 : Nat} {A3 : Option Addr} {c3 : Nat}
theorem CVisit.keep (h : CVisit w b o P A0 c0 A3 c3) (hb : w'.heap[b]? = w.heap[b]?) : CVisit w' b o P A0 c0 A3 c3 :=
  ⟨by rw [Mem.cell_of_heap hb]; exact h.c0', by rw [Mem.cell_of_heap hb]; exact h.c1, by rw [Mem.cell_of_heap hb]; exact h.c2, by rw [Mem.cell_of_heap hb]; exact h.c3'⟩
theorem CVisit.lt (h : CVisit w b o P A0 c0 A3 c3) : b < w.heap.size := Mem.cell_lt h.c0'
theorem CVisit.below (h : CVisit w b o P A0 c0 A3 c3) (hb : Below w.heap.size w w') : CVisit w' b o P A0 c0 A3 c3 := h.keep (hb.block _ h.lt)
theorem CVisit.all (h : CVisit w b o P A0 c0 A3 c3) : w.cell? ⟨b, o, none⟩ = some (.slice A0 P.f0.length c0) ∧ w.cell? ⟨b, o + 1, none⟩ = some (.int .i64 P.f1) ∧ w.cell? ⟨b, o + 2, none⟩ = some (.int .i64 P.f2) ∧ w.cell? ⟨b, o + 3, none⟩ = some (.slice A3 P.f3.length c3) := ⟨h.c0', h.c1, h.c2, h.c3'⟩
end
theorem at_Visit {lo hi : Nat} {w : World} {A : Option Addr} {n c : Nat} {l : List TVisit} (h : Lies lo hi w (dVisit l) (.slice A n c)) {j : Nat} (hj : j < n) :
    ∃ (b off : Nat) (A0 : Option Addr) (c0 : Nat) (A3 : Option Addr) (c3 : Nat), A = some ⟨b, off, none⟩ ∧ lo ≤ b ∧ b < hi ∧ CVisit w b (off + j * 4) (l.getD j nVisit) A0 c0 A3 c3 ∧ Lies lo hi w (dVersion (l.getD j nVisit).f0) (.slice A0 (l.getD j nVisit).f0.length c0) ∧ Lies lo hi w (ints (l.getD j nVisit).f3) (.slice A3 (l.getD j nVisit).f3.length c3) ∧ ((Lit.int .i64 (l.getD j nVisit).f1).wf = true ∧ (Lit.int .i64 (l.getD j nVisit).f2).wf = true ∧ True) := by
  obtain ⟨A', c', e, h1, h2, h3⟩ := h
  injection e with e1 e2 e3
  subst e1 e2 e3
  obtain ⟨b, off, rfl, k1, k2, k3⟩ := h3 (by omega)
  have k4 : ∀ x, x < 4 → ∃ u, w.cell? ⟨b, off + j * 4 + x, none⟩ = some u ∧ Lies lo hi w ((l.getD j nVisit).c x) u := fun x hx => k3 j hj x hx
  clear k3 h3
  obtain ⟨P, hP⟩ : ∃ P, l.getD j nVisit = P := ⟨_, rfl⟩
  rw [hP] at k4 ⊢
  obtain ⟨u0, g0, q0⟩ := k4 0 (by omega)
  replace q0 : Lies lo hi w (dVersion P.f0) u0 := q0
  obtain ⟨A0, c0, rfl⟩ := lies_Version q0
  obtain ⟨u1, g1, q1⟩ := k4 1 (by omega)
  replace q1 : Lies lo hi w (.int P.f1) u1 := q1
  obtain ⟨rfl, w1⟩ := lies_int q1
  obtain ⟨u2, g2, q2⟩ := k4 2 (by omega)
  replace q2 : Lies lo hi w (.int P.f2) u2 := q2
  obtain ⟨rfl, w2⟩ := lies_int q2
  obtain ⟨u3, g3, q3⟩ := k4 3 (by omega)
  replace q3 : Lies lo hi w (ints P.f3) u3 := q3
  obtain ⟨A3, c3, rfl⟩ := lies_ints q3
  exact ⟨b, off, A0, c0, A3, c3, rfl, k1, k2, ⟨g0, g1, g2, g3⟩, q0, q3, ⟨w1, w2, trivial⟩⟩
theorem lies_Visit {lo hi : Nat} {w : World} {l : List TVisit} {v : Value} (h : Lies lo hi w (dVisit l) v) : ∃ A c, v = .slice A l.length c := by
  obtain ⟨A, c, e, _⟩ := h; exact ⟨A, c, e⟩
theorem room_Visit (P : TVisit) : sumTo (fun x => room (P.c x)) 4 = room (dVersion P.f0) + room (ints P.f3) := by
  first | (simp [sumTo, TVisit.c, room]; done) | (simp [sumTo, TVisit.c, room]; omega)
theorem ct_Visit (P : TVisit) : sumTo (fun x => ct (P.c x)) 4 = 2 + ct (dVersion P.f0) + ct (ints P.f3) := by
  first | (simp [sumTo, TVisit.c, ct]; done) | (simp [sumTo, TVisit.c, ct]; omega)

set_option maxHeartbeats 1600000 in
set_option maxRecDepth 100000 in
theorem gto_Visit {lo hi : Nat} {w : World} (P : TVisit) {A0 : Option Addr} {c0 : Nat} {A3 : Option Addr} {c3 : Nat} (h0 : Lies lo hi w (dVersion P.f0) (.slice A0 P.f0.length c0)) (h3 : Lies lo hi w (ints P.f3) (.slice A3 P.f3.length c3)) (hh : hi ≤ w.heap.size) (hm0 : room (dVersion P.f0) ≤ 1073741824) (hm3 : room (ints P.f3) ≤ 1099511627776) :
    Calls Try.prog 18 #[(Value.agg #[.slice A0 P.f0.length c0, .int .i64 P.f1, .int .i64 P.f2, .slice A3 P.f3.length c3])] w fun e w' => ∃ (a0 : Option Addr) (e0 : Nat) (a3 : Option Addr) (e3 : Nat) (m1 : Nat), e = .returned (Value.agg #[.slice a0 P.f0.length e0, .int .i64 P.f1, .int .i64 P.f2, .slice a3 P.f3.length e3]) ∧ OwnD (w.heap.size) (m1) w' (dVersion P.f0) (.slice a0 P.f0.length e0) ∧ OwnD (m1) (w'.heap.size) w' (ints P.f3) (.slice a3 P.f3.length e3) ∧ w.heap.size ≤ m1 ∧ m1 ≤ w'.heap.size ∧ Below w.heap.size w w' := by
  obtain ⟨O1, hO1⟩ : ∃ O, O = Obj.cells #[Value.slice A0 P.f0.length c0, .int .i64 P.f1, .int .i64 P.f2, .slice A3 P.f3.length c3] 45 (0, 0) := ⟨_, rfl⟩
  obtain ⟨O2, hO2⟩ : ∃ O, O = Obj.cells #[Value.slice none 0 0, .int .i64 0, .int .i64 0, .slice none 0 0] 27 (0, 0) := ⟨_, rfl⟩
  obtain ⟨O3, hO3⟩ : ∃ O, O = Obj.cells #[Value.slice none 0 0, .int .i64 0, .int .i64 0, .slice none 0 0] 27 (0, 0) := ⟨_, rfl⟩
  have hB : Below w.heap.size w (((w.alloc O1).alloc O2).alloc O3) := by repeat' (first | exact Below.refl _ _ | assumption | refine Below.setCell ?_ ?_ _ | refine Below.alloc ?_ ?_ _ | refine Gen.gbelow_drewN ?_ _ | refine Below.drew ?_ | exact Nat.le_refl _ | omega | (dsimp only; omega) | refine Gen.gle_alloc ?_ | refine Gen.gle_set ?_ | refine Gen.gle_drewN ?_ | refine Gen.gle_drew ?_)
  have qA : Blk 45 w.heap.size [Value.slice A0 P.f0.length c0, .int .i64 P.f1, .int .i64 P.f2, .slice A3 P.f3.length c3] (((w.alloc O1).alloc O2).alloc O3) := by rw [hO1]; exact ((Blk.new _ _ w).alloc _).alloc _
  have qR : Blk 27 (w.heap.size + 1) [Value.slice none 0 0, .int .i64 0, .int .i64 0, .slice none 0 0] (((w.alloc O1).alloc O2).alloc O3) := by have := (Blk.new 27 [Value.slice none 0 0, .int .i64 0, .int .i64 0, .slice none 0 0] (w.alloc O1)).alloc O3; rw [gsize_alloc] at this; rw [hO2]; exact this
  have qO : Blk 27 (w.heap.size + 1 + 1) [Value.slice none 0 0, .int .i64 0, .int .i64 0, .slice none 0 0] (((w.alloc O1).alloc O2).alloc O3) := by have := Blk.new 27 [Value.slice none 0 0, .int .i64 0, .int .i64 0, .slice none 0 0] ((w.alloc O1).alloc O2); rw [gsize_alloc, gsize_alloc] at this; rw [hO3]; exact this
  have hS : (((w.alloc O1).alloc O2).alloc O3).heap.size = w.heap.size + 3 := by simp only [gsize_alloc]
  subst hO1 hO2 hO3
  go_enter Try.func18, Try.ntmps18
  go_wp2_with fail
  go_at_call 51
  refine Calls.mono (gto_VersionS (lo := lo) (hi := hi) (h0.under (B := w.heap.size) hB hh) (Nat.le_trans hh hB.size) hm0) ?_
  rintro e w1 ⟨u, rfl, ho, hb⟩
  obtain ⟨a0, e0, rfl, _⟩ : ∃ a c, u = .slice a P.f0.length c ∧ True := by obtain ⟨a, c, q, _⟩ := ho; exact ⟨a, c, q, trivial⟩
  have ho0 := ho
  have qA := qA.below hb
  have qR := qR.below hb
  have qO := qO.below hb
  have hz1 := hb.size
  rw [hS] at hz1
  try rw [hS] at ho0
  have hB := hB.trans (hb.mono hB.size)
  clear hb
  clear hS
  have fO := qO.free
  have fR := qR.free
  have ca0 : w1.cell? ⟨w.heap.size, 0, none⟩ = some (.slice A0 P.f0.length c0) := qA.at rfl
  have ca1 : w1.cell? ⟨w.heap.size, 1, none⟩ = some (.int .i64 P.f1) := qA.at rfl
  have ca2 : w1.cell? ⟨w.heap.size, 2, none⟩ = some (.int .i64 P.f2) := qA.at rfl
  have ca3 : w1.cell? ⟨w.heap.size, 3, none⟩ = some (.slice A3 P.f3.length c3) := qA.at rfl
  have co0 : w1.cell? ⟨w.heap.size + 1 + 1, 0, none⟩ = some (.slice none 0 0) := qO.at rfl
  have cr0 : w1.cell? ⟨w.heap.size + 1, 0, none⟩ = some (.slice none 0 0) := qR.at rfl
  have fo0 : w1.frozen? ⟨w.heap.size + 1 + 1, 0, none⟩ = false := fO 0
  have fr0 : w1.frozen? ⟨w.heap.size + 1, 0, none⟩ = false := fR 0
  have co1 : w1.cell? ⟨w.heap.size + 1 + 1, 1, none⟩ = some (.int .i64 0) := qO.at rfl
  have cr1 : w1.cell? ⟨w.heap.size + 1, 1, none⟩ = some (.int .i64 0) := qR.at rfl
  have fo1 : w1.frozen? ⟨w.heap.size + 1 + 1, 1, none⟩ = false := fO 1
  have fr1 : w1.frozen? ⟨w.heap.size + 1, 1, none⟩ = false := fR 1
  have co2 : w1.cell? ⟨w.heap.size + 1 + 1, 2, none⟩ = some (.int .i64 0) := qO.at rfl
  have cr2 : w1.cell? ⟨w.heap.size + 1, 2, none⟩ = some (.int .i64 0) := qR.at rfl
  have fo2 : w1.frozen? ⟨w.heap.size + 1 + 1, 2, none⟩ = false := fO 2
  have fr2 : w1.frozen? ⟨w.heap.size + 1, 2, none⟩ = false := fR 2
  have co3 : w1.cell? ⟨w.heap.size + 1 + 1, 3, none⟩ = some (.slice none 0 0) := qO.at rfl
  have cr3 : w1.cell? ⟨w.heap.size + 1, 3, none⟩ = some (.slice none 0 0) := qR.at rfl
  have fo3 : w1.frozen? ⟨w.heap.size + 1 + 1, 3, none⟩ = false := fO 3
  have fr3 : w1.frozen? ⟨w.heap.size + 1, 3, none⟩ = false := fR 3
  have hV : Below w.heap.size w (((w1.setCell ⟨w.heap.size + 1 + 1, 0, none⟩ (.slice a0 P.f0.length e0)).setCell ⟨w.heap.size + 1 + 1, 1, none⟩ (.int .i64 P.f1)).setCell ⟨w.heap.size + 1 + 1, 2, none⟩ (.int .i64 P.f2)) := by (iterate 3 (refine Below.setCell ?_ (by dsimp only; omega) _)); exact hB
  have hZ : Zone 0 (w.heap.size + 3) w1 (((w1.setCell ⟨w.heap.size + 1 + 1, 0, none⟩ (.slice a0 P.f0.length e0)).setCell ⟨w.heap.size + 1 + 1, 1, none⟩ (.int .i64 P.f1)).setCell ⟨w.heap.size + 1 + 1, 2, none⟩ (.int .i64 P.f2)) := by (iterate 3 (refine Zone.setCell ?_ ⟨by omega, by omega⟩ _)); exact Zone.refl _ _ _
  have hVs : (((w1.setCell ⟨w.heap.size + 1 + 1, 0, none⟩ (.slice a0 P.f0.length e0)).setCell ⟨w.heap.size + 1 + 1, 1, none⟩ (.int .i64 P.f1)).setCell ⟨w.heap.size + 1 + 1, 2, none⟩ (.int .i64 P.f2)).heap.size = w1.heap.size := by simp only [gsize_set]
  have pO : Blk 27 (w.heap.size + 1 + 1) [Value.slice a0 P.f0.length e0, .int .i64 P.f1, .int .i64 P.f2, .slice none 0 0] (((w1.setCell ⟨w.heap.size + 1 + 1, 0, none⟩ (.slice a0 P.f0.length e0)).setCell ⟨w.heap.size + 1 + 1, 1, none⟩ (.int .i64 P.f1)).setCell ⟨w.heap.size + 1 + 1, 2, none⟩ (.int .i64 P.f2)) := (((qO.set 0 (.slice a0 P.f0.length e0)).set 1 (.int .i64 P.f1)).set 2 (.int .i64 P.f2))
  have pR := (((qR.other (a := ⟨w.heap.size + 1 + 1, 0, none⟩) (.slice a0 P.f0.length e0) (by dsimp only; omega)).other (a := ⟨w.heap.size + 1 + 1, 1, none⟩) (.int .i64 P.f1) (by dsimp only; omega)).other (a := ⟨w.heap.size + 1 + 1, 2, none⟩) (.int .i64 P.f2) (by dsimp only; omega))
  have pA := (((qA.other (a := ⟨w.heap.size + 1 + 1, 0, none⟩) (.slice a0 P.f0.length e0) (by dsimp only; omega)).other (a := ⟨w.heap.size + 1 + 1, 1, none⟩) (.int .i64 P.f1) (by dsimp only; omega)).other (a := ⟨w.heap.size + 1 + 1, 2, none⟩) (.int .i64 P.f2) (by dsimp only; omega))
  have ho0 := OwnD.zone ho0 hZ (Or.inr (by omega))
  go_wp2_with fail
  go_at_call 52
  refine Calls.mono (gto_IntS (lo := lo) (hi := hi) (h3.under (B := w.heap.size) hV hh) (Nat.le_trans hh hV.size) hm3) ?_
  rintro e w2 ⟨u, rfl, ho, hb⟩
  obtain ⟨a3, e3, rfl, _⟩ : ∃ a c, u = .slice a P.f3.length c ∧ True := by obtain ⟨a, c, q, _⟩ := ho; exact ⟨a, c, q, trivial⟩
  have ho3 := ho
  have qA := pA.below hb
  have qR := pR.below hb
  have qO := pO.below hb
  have hz2 := hb.size
  rw [hVs] at hz2
  try rw [hVs] at ho3
  have ho0 := OwnD.under ho0 hb (by first | omega | (rw [hVs]; omega))
  have hB := hV.trans (hb.mono hV.size)
  clear pA pR pO hV hZ hVs
  clear hb
  have fO := qO.free
  have fR := qR.free
  have ca0 : w2.cell? ⟨w.heap.size, 0, none⟩ = some (.slice A0 P.f0.length c0) := qA.at rfl
  have ca1 : w2.cell? ⟨w.heap.size, 1, none⟩ = some (.int .i64 P.f1) := qA.at rfl
  have ca2 : w2.cell? ⟨w.heap.size, 2, none⟩ = some (.int .i64 P.f2) := qA.at rfl
  have ca3 : w2.cell? ⟨w.heap.size, 3, none⟩ = some (.slice A3 P.f3.length c3) := qA.at rfl
  have co0 : w2.cell? ⟨w.heap.size + 1 + 1, 0, none⟩ = some (.slice a0 P.f0.length e0) := qO.at rfl
  have cr0 : w2.cell? ⟨w.heap.size + 1, 0, none⟩ = some (.slice none 0 0) := qR.at rfl
  have fo0 : w2.frozen? ⟨w.heap.size + 1 + 1, 0, none⟩ = false := fO 0
  have fr0 : w2.frozen? ⟨w.heap.size + 1, 0, none⟩ = false := fR 0
  have co1 : w2.cell? ⟨w.heap.size + 1 + 1, 1, none⟩ = some (.int .i64 P.f1) := qO.at rfl
  have cr1 : w2.cell? ⟨w.heap.size + 1, 1, none⟩ = some (.int .i64 0) := qR.at rfl
  have fo1 : w2.frozen? ⟨w.heap.size + 1 + 1, 1, none⟩ = false := fO 1
  have fr1 : w2.frozen? ⟨w.heap.size + 1, 1, none⟩ = false := fR 1
  have co2 : w2.cell? ⟨w.heap.size + 1 + 1, 2, none⟩ = some (.int .i64 P.f2) := qO.at rfl
  have cr2 : w2.cell? ⟨w.heap.size + 1, 2, none⟩ = some (.int .i64 0) := qR.at rfl
  have fo2 : w2.frozen? ⟨w.heap.size + 1 + 1, 2, none⟩ = false := fO 2
  have fr2 : w2.frozen? ⟨w.heap.size + 1, 2, none⟩ = false := fR 2
  have co3 : w2.cell? ⟨w.heap.size + 1 + 1, 3, none⟩ = some (.slice none 0 0) := qO.at rfl
  have cr3 : w2.cell? ⟨w.heap.size + 1, 3, none⟩ = some (.slice none 0 0) := qR.at rfl
  have fo3 : w2.frozen? ⟨w.heap.size + 1 + 1, 3, none⟩ = false := fO 3
  have fr3 : w2.frozen? ⟨w.heap.size + 1, 3, none⟩ = false := fR 3
  go_upto_region 6 with fail
  obtain ⟨V, hV⟩ : ∃ V, V = (w2.setCell ⟨w.heap.size + 1 + 1, 3, none⟩ (.slice a3 P.f3.length e3)) := ⟨_, rfl⟩
  have hBV : Below w.heap.size w V := by rw [hV]; (iterate 1 (refine Below.setCell ?_ (by dsimp only; omega) _)); exact hB
  have hZV : Zone 0 (w.heap.size + 3) w2 V := by rw [hV]; (iterate 1 (refine Zone.setCell ?_ ⟨by omega, by omega⟩ _)); exact Zone.refl _ _ _
  have hVs : V.heap.size = w2.heap.size := by rw [hV]; simp only [gsize_set]
  have pO : Blk 27 (w.heap.size + 1 + 1) [Value.slice a0 P.f0.length e0, .int .i64 P.f1, .int .i64 P.f2, .slice a3 P.f3.length e3] V := by rw [hV]; exact (qO.set 3 (.slice a3 P.f3.length e3))
  have pR : Blk 27 (w.heap.size + 1) [Value.slice none 0 0, .int .i64 0, .int .i64 0, .slice none 0 0] V := by rw [hV]; exact (qR.other (a := ⟨w.heap.size + 1 + 1, 3, none⟩) (.slice a3 P.f3.length e3) (by dsimp only; omega))
  have ho0 := OwnD.zone ho0 hZV (Or.inr (by omega))
  have ho3 := OwnD.zone ho3 hZV (Or.inr (by omega))
  rw [← hV]
  clear hV hZV qA qR qO fO fR ca0 co0 cr0 fo0 fr0 ca1 co1 cr1 fo1 fr1 ca2 co2 cr2 fo2 fr2 ca3 co3 cr3 fo3 fr3 hB
  have co0 : V.cell? ⟨w.heap.size + 1 + 1, 0, none⟩ = some (.slice a0 P.f0.length e0) := pO.at rfl
  have cr0 : V.cell? ⟨w.heap.size + 1, 0, none⟩ = some (.slice none 0 0) := pR.at rfl
  have fr0 : V.frozen? ⟨w.heap.size + 1, 0, none⟩ = false := pR.free 0
  have co1 : V.cell? ⟨w.heap.size + 1 + 1, 1, none⟩ = some (.int .i64 P.f1) := pO.at rfl
  have cr1 : V.cell? ⟨w.heap.size + 1, 1, none⟩ = some (.int .i64 0) := pR.at rfl
  have fr1 : V.frozen? ⟨w.heap.size + 1, 1, none⟩ = false := pR.free 1
  have co2 : V.cell? ⟨w.heap.size + 1 + 1, 2, none⟩ = some (.int .i64 P.f2) := pO.at rfl
  have cr2 : V.cell? ⟨w.heap.size + 1, 2, none⟩ = some (.int .i64 0) := pR.at rfl
  have fr2 : V.frozen? ⟨w.heap.size + 1, 2, none⟩ = false := pR.free 2
  have co3 : V.cell? ⟨w.heap.size + 1 + 1, 3, none⟩ = some (.slice a3 P.f3.length e3) := pO.at rfl
  have cr3 : V.cell? ⟨w.heap.size + 1, 3, none⟩ = some (.slice none 0 0) := pR.at rfl
  have fr3 : V.frozen? ⟨w.heap.size + 1, 3, none⟩ = false := pR.free 3
  go_wp2
  have qF := ((((pR.set 0 (.slice a0 P.f0.length e0)).set 1 (.int .i64 P.f1)).set 2 (.int .i64 P.f2)).set 3 (.slice a3 P.f3.length e3))
  have g0 := qF.at (x := 0) rfl
  have g1 := qF.at (x := 1) rfl
  have g2 := qF.at (x := 2) rfl
  have g3 := qF.at (x := 3) rfl
  refine bodyPost_ret (v := (Value.agg #[.slice a0 P.f0.length e0, .int .i64 P.f1, .int .i64 P.f2, .slice a3 P.f3.length e3])) (by simp [results, Try.results18, go_sem, g0, g1, g2, g3]) rfl ⟨a0, e0, a3, e3, _, rfl, (OwnD.more (OwnD.zone ho0 (lo' := 0) (hi' := w.heap.size + 3) (by (iterate 4 (refine Zone.setCell ?_ ⟨by omega, by omega⟩ _)); exact Zone.refl _ _ _) (Or.inr (by omega))) (by omega) (Nat.le_refl _)), (OwnD.more (OwnD.zone ho3 (lo' := 0) (hi' := w.heap.size + 3) (by (iterate 4 (refine Zone.setCell ?_ ⟨by omega, by omega⟩ _)); exact Zone.refl _ _ _) (Or.inr (by omega))) (by omega) (by simp only [gsize_set]; omega)), (by omega), (by simp only [gsize_set]; omega), ?_⟩
  iterate 4 (refine Below.setCell ?_ (by dsimp only; omega) _)
  exact hBV

set_option maxHeartbeats 1600000 in
set_option maxRecDepth 100000 in
theorem gsz_Visit {lo hi : Nat} {w : World} (P : TVisit) {A0 : Option Addr} {c0 : Nat} {A3 : Option Addr} {c3 : Nat} (h0 : Lies lo hi w (dVersion P.f0) (.slice A0 P.f0.length c0)) (h3 : Lies lo hi w (ints P.f3) (.slice A3 P.f3.length c3)) (hh : hi ≤ w.heap.size) (l : Int) (hl : 0 ≤ l) (hl' : l ≤ 1048576) :
    Calls Try.prog 17 #[(Value.agg #[.slice A0 P.f0.length c0, .int .i64 P.f1, .int .i64 P.f2, .slice A3 P.f3.length c3]), .int .i64 l] w fun e w' => e = .returned (.int .i64 (left l (room (dVersion P.f0) + room (ints P.f3)))) ∧ Below w.heap.size w w' := by
  obtain ⟨O1, hO1⟩ : ∃ O, O = Obj.cells #[Value.slice A0 P.f0.length c0, .int .i64 P.f1, .int .i64 P.f2, .slice A3 P.f3.length c3] 45 (0, 0) := ⟨_, rfl⟩
  have hB : Below w.heap.size w (w.alloc O1) := by repeat' (first | exact Below.refl _ _ | assumption | refine Below.setCell ?_ ?_ _ | refine Below.alloc ?_ ?_ _ | refine Gen.gbelow_drewN ?_ _ | refine Below.drew ?_ | exact Nat.le_refl _ | omega | (dsimp only; omega) | refine Gen.gle_alloc ?_ | refine Gen.gle_set ?_ | refine Gen.gle_drewN ?_ | refine Gen.gle_drew ?_)
  have qA : Blk 45 w.heap.size [Value.slice A0 P.f0.length c0, .int .i64 P.f1, .int .i64 P.f2, .slice A3 P.f3.length c3] (w.alloc O1) := by rw [hO1]; exact Blk.new _ _ w
  subst hO1
  obtain ⟨T, hT⟩ : ∃ T, left l (room (dVersion P.f0) + room (ints P.f3)) = T := ⟨_, rfl⟩
  rw [hT]
  have HT := Lib.hid hT
  clear hT
  go_enter Try.func17, Try.ntmps17
  go_wp2_with fail
  go_at_call 49
  refine Calls.mono (gsz_VersionS (lo := lo) (hi := hi) (h0.under (B := w.heap.size) hB hh) (Nat.le_trans hh hB.size) l hl hl') ?_
  rintro e w1 ⟨rfl, hb⟩
  have qA := qA.below hb
  have hB := hB.trans (hb.mono hB.size)
  clear hb
  have ca0 : w1.cell? ⟨w.heap.size, 0, none⟩ = some (.slice A0 P.f0.length c0) := qA.at rfl
  have ca1 : w1.cell? ⟨w.heap.size, 1, none⟩ = some (.int .i64 P.f1) := qA.at rfl
  have ca2 : w1.cell? ⟨w.heap.size, 2, none⟩ = some (.int .i64 P.f2) := qA.at rfl
  have ca3 : w1.cell? ⟨w.heap.size, 3, none⟩ = some (.slice A3 P.f3.length c3) := qA.at rfl
  have hc1 := left_cases l (room (dVersion P.f0)) hl
  obtain ⟨r1, hq1⟩ : ∃ r, left l (room (dVersion P.f0)) = r := ⟨_, rfl⟩
  rw [hq1] at hc1 ⊢
  rcases hc1 with ⟨rfl, hs1⟩ | ⟨he1, hr1⟩
  · have hT : T = -1 := by rw [← HT.out]; exact left_none (by omega)
    go_wp2
    go_ret
    exact ⟨by first | (rw [hT]; rfl) | rfl, hB⟩
  have hd1 : decide (r1 < 0) = false := by simp; omega
  have hr1' : r1 ≤ 1048576 := by omega
  have HE1 := Lib.hid he1
  clear he1 hq1
  go_wp2_with fail
  go_at_call 50
  refine Calls.mono (gsz_IntS (lo := lo) (hi := hi) (h3.under (B := w.heap.size) hB hh) (Nat.le_trans hh hB.size) r1 hr1 hr1') ?_
  rintro e w2 ⟨rfl, hb⟩
  have qA := qA.below hb
  have hB := hB.trans (hb.mono hB.size)
  clear hb
  have ca0 : w2.cell? ⟨w.heap.size, 0, none⟩ = some (.slice A0 P.f0.length c0) := qA.at rfl
  have ca1 : w2.cell? ⟨w.heap.size, 1, none⟩ = some (.int .i64 P.f1) := qA.at rfl
  have ca2 : w2.cell? ⟨w.heap.size, 2, none⟩ = some (.int .i64 P.f2) := qA.at rfl
  have ca3 : w2.cell? ⟨w.heap.size, 3, none⟩ = some (.slice A3 P.f3.length c3) := qA.at rfl
  have hc2 := left_cases r1 (room (ints P.f3)) hr1
  obtain ⟨r2, hq2⟩ : ∃ r, left r1 (room (ints P.f3)) = r := ⟨_, rfl⟩
  rw [hq2] at hc2 ⊢
  rcases hc2 with ⟨rfl, hs2⟩ | ⟨he2, hr2⟩
  · have hT : T = -1 := by have := HE1.out; rw [← HT.out]; exact left_none (by omega)
    go_wp2
    go_ret
    exact ⟨by first | (rw [hT]; rfl) | rfl, hB⟩
  have hd2 : decide (r2 < 0) = false := by simp; omega
  have hr2' : r2 ≤ 1048576 := by omega
  have HE2 := Lib.hid he2
  clear he2 hq2
  have hT : T = r2 := by have := HE1.out; have := HE2.out; rw [← HT.out, left_some (by omega)]; omega
  go_wp2
  go_ret
  exact ⟨by first | (rw [hT]; rfl) | rfl, hB⟩

set_option maxHeartbeats 1600000 in
set_option maxRecDepth 100000 in
theorem geq_Visit {x1 y1 x2 y2 : Nat} {w : World} (P : TVisit) {A0 : Option Addr} {c0 : Nat} {A3 : Option Addr} {c3 : Nat} {B0 : Option Addr} {d0 : Nat} {B3 : Option Addr} {d3 : Nat} (h0 : Lies x1 y1 w (dVersion P.f0) (.slice A0 P.f0.length c0)) (h3 : Lies x1 y1 w (ints P.f3) (.slice A3 P.f3.length c3)) (k0 : Lies x2 y2 w (dVersion P.f0) (.slice B0 P.f0.length d0)) (k3 : Lies x2 y2 w (ints P.f3) (.slice B3 P.f3.length d3)) (s1 : y1 ≤ w.heap.size) (s2 : y2 ≤ w.heap.size) :
    Calls Try.prog 19 #[(Value.agg #[.slice A0 P.f0.length c0, .int .i64 P.f1, .int .i64 P.f2, .slice A3 P.f3.length c3]), (Value.agg #[.slice B0 P.f0.length d0, .int .i64 P.f1, .int .i64 P.f2, .slice B3 P.f3.length d3])] w fun e w' => e = .returned (.bool true) ∧ Below w.heap.size w w' := by
  obtain ⟨O1, hO1⟩ : ∃ O, O = Obj.cells #[Value.slice A0 P.f0.length c0, .int .i64 P.f1, .int .i64 P.f2, .slice A3 P.f3.length c3] 27 (0, 0) := ⟨_, rfl⟩
  obtain ⟨O2, hO2⟩ : ∃ O, O = Obj.cells #[Value.slice B0 P.f0.length d0, .int .i64 P.f1, .int .i64 P.f2, .slice B3 P.f3.length d3] 27 (0, 0) := ⟨_, rfl⟩
  have hB : Below w.heap.size w ((w.alloc O1).alloc O2) := by repeat' (first | exact Below.refl _ _ | assumption | refine Below.setCell ?_ ?_ _ | refine Below.alloc ?_ ?_ _ | refine Gen.gbelow_drewN ?_ _ | refine Below.drew ?_ | exact Nat.le_refl _ | omega | (dsimp only; omega) | refine Gen.gle_alloc ?_ | refine Gen.gle_set ?_ | refine Gen.gle_drewN ?_ | refine Gen.gle_drew ?_)
  have qA : Blk 27 w.heap.size [Value.slice A0 P.f0.length c0, .int .i64 P.f1, .int .i64 P.f2, .slice A3 P.f3.length c3] ((w.alloc O1).alloc O2) := by rw [hO1]; exact (Blk.new _ _ w).alloc _
  have qB : Blk 27 (w.heap.size + 1) [Value.slice B0 P.f0.length d0, .int .i64 P.f1, .int .i64 P.f2, .slice B3 P.f3.length d3] ((w.alloc O1).alloc O2) := by have := Blk.new 27 [Value.slice B0 P.f0.length d0, .int .i64 P.f1, .int .i64 P.f2, .slice B3 P.f3.length d3] (w.alloc O1); rw [gsize_alloc] at this; rw [hO2]; exact this
  subst hO1 hO2
  have ca0 : ((w.alloc (.cells #[Value.slice A0 P.f0.length c0, .int .i64 P.f1, .int .i64 P.f2, .slice A3 P.f3.length c3] 27)).alloc (.cells #[Value.slice B0 P.f0.length d0, .int .i64 P.f1, .int .i64 P.f2, .slice B3 P.f3.length d3] 27)).cell? ⟨w.heap.size, 0, none⟩ = some (.slice A0 P.f0.length c0) := qA.at rfl
  have cb0 : ((w.alloc (.cells #[Value.slice A0 P.f0.length c0, .int .i64 P.f1, .int .i64 P.f2, .slice A3 P.f3.length c3] 27)).alloc (.cells #[Value.slice B0 P.f0.length d0, .int .i64 P.f1, .int .i64 P.f2, .slice B3 P.f3.length d3] 27)).cell? ⟨w.heap.size + 1, 0, none⟩ = some (.slice B0 P.f0.length d0) := qB.at rfl
  have ca1 : ((w.alloc (.cells #[Value.slice A0 P.f0.length c0, .int .i64 P.f1, .int .i64 P.f2, .slice A3 P.f3.length c3] 27)).alloc (.cells #[Value.slice B0 P.f0.length d0, .int .i64 P.f1, .int .i64 P.f2, .slice B3 P.f3.length d3] 27)).cell? ⟨w.heap.size, 1, none⟩ = some (.int .i64 P.f1) := qA.at rfl
  have cb1 : ((w.alloc (.cells #[Value.slice A0 P.f0.length c0, .int .i64 P.f1, .int .i64 P.f2, .slice A3 P.f3.length c3] 27)).alloc (.cells #[Value.slice B0 P.f0.length d0, .int .i64 P.f1, .int .i64 P.f2, .slice B3 P.f3.length d3] 27)).cell? ⟨w.heap.size + 1, 1, none⟩ = some (.int .i64 P.f1) := qB.at rfl
  have ca2 : ((w.alloc (.cells #[Value.slice A0 P.f0.length c0, .int .i64 P.f1, .int .i64 P.f2, .slice A3 P.f3.length c3] 27)).alloc (.cells #[Value.slice B0 P.f0.length d0, .int .i64 P.f1, .int .i64 P.f2, .slice B3 P.f3.length d3] 27)).cell? ⟨w.heap.size, 2, none⟩ = some (.int .i64 P.f2) := qA.at rfl
  have cb2 : ((w.alloc (.cells #[Value.slice A0 P.f0.length c0, .int .i64 P.f1, .int .i64 P.f2, .slice A3 P.f3.length c3] 27)).alloc (.cells #[Value.slice B0 P.f0.length d0, .int .i64 P.f1, .int .i64 P.f2, .slice B3 P.f3.length d3] 27)).cell? ⟨w.heap.size + 1, 2, none⟩ = some (.int .i64 P.f2) := qB.at rfl
  have ca3 : ((w.alloc (.cells #[Value.slice A0 P.f0.length c0, .int .i64 P.f1, .int .i64 P.f2, .slice A3 P.f3.length c3] 27)).alloc (.cells #[Value.slice B0 P.f0.length d0, .int .i64 P.f1, .int .i64 P.f2, .slice B3 P.f3.length d3] 27)).cell? ⟨w.heap.size, 3, none⟩ = some (.slice A3 P.f3.length c3) := qA.at rfl
  have cb3 : ((w.alloc (.cells #[Value.slice A0 P.f0.length c0, .int .i64 P.f1, .int .i64 P.f2, .slice A3 P.f3.length c3] 27)).alloc (.cells #[Value.slice B0 P.f0.length d0, .int .i64 P.f1, .int .i64 P.f2, .slice B3 P.f3.length d3] 27)).cell? ⟨w.heap.size + 1, 3, none⟩ = some (.slice B3 P.f3.length d3) := qB.at rfl
  go_enter Try.func19, Try.ntmps19
  go_wp2_with fail
  go_at_call 53
  refine Calls.mono (geq_VersionS (x1 := x1) (y1 := y1) (x2 := x2) (y2 := y2) (h0.under (B := w.heap.size) hB s1) (k0.under (B := w.heap.size) hB s2) (Nat.le_trans s1 hB.size) (Nat.le_trans s2 hB.size)) ?_
  rintro e w1 ⟨rfl, hb⟩
  have qA := qA.below hb
  have qB := qB.below hb
  have hB := hB.trans (hb.mono hB.size)
  clear hb
  clear ca0 cb0 ca1 cb1 ca2 cb2 ca3 cb3
  have ca0 : w1.cell? ⟨w.heap.size, 0, none⟩ = some (.slice A0 P.f0.length c0) := qA.at rfl
  have cb0 : w1.cell? ⟨w.heap.size + 1, 0, none⟩ = some (.slice B0 P.f0.length d0) := qB.at rfl
  have ca1 : w1.cell? ⟨w.heap.size, 1, none⟩ = some (.int .i64 P.f1) := qA.at rfl
  have cb1 : w1.cell? ⟨w.heap.size + 1, 1, none⟩ = some (.int .i64 P.f1) := qB.at rfl
  have ca2 : w1.cell? ⟨w.heap.size, 2, none⟩ = some (.int .i64 P.f2) := qA.at rfl
  have cb2 : w1.cell? ⟨w.heap.size + 1, 2, none⟩ = some (.int .i64 P.f2) := qB.at rfl
  have ca3 : w1.cell? ⟨w.heap.size, 3, none⟩ = some (.slice A3 P.f3.length c3) := qA.at rfl
  have cb3 : w1.cell? ⟨w.heap.size + 1, 3, none⟩ = some (.slice B3 P.f3.length d3) := qB.at rfl
  go_wp2_with fail
  go_at_call 54
  refine Calls.mono (geq_IntS (l1 := x1) (h1 := y1) (l2 := x2) (h2 := y2) (zs := P.f3) (h3.under (B := w.heap.size) hB s1) (k3.under (B := w.heap.size) hB s2)) ?_
  rintro e w2 ⟨rfl, hb⟩
  have qA := qA.below hb
  have qB := qB.below hb
  have hB := hB.trans (hb.mono hB.size)
  clear hb
  clear ca0 cb0 ca1 cb1 ca2 cb2 ca3 cb3
  have ca0 : w2.cell? ⟨w.heap.size, 0, none⟩ = some (.slice A0 P.f0.length c0) := qA.at rfl
  have cb0 : w2.cell? ⟨w.heap.size + 1, 0, none⟩ = some (.slice B0 P.f0.length d0) := qB.at rfl
  have ca1 : w2.cell? ⟨w.heap.size, 1, none⟩ = some (.int .i64 P.f1) := qA.at rfl
  have cb1 : w2.cell? ⟨w.heap.size + 1, 1, none⟩ = some (.int .i64 P.f1) := qB.at rfl
  have ca2 : w2.cell? ⟨w.heap.size, 2, none⟩ = some (.int .i64 P.f2) := qA.at rfl
  have cb2 : w2.cell? ⟨w.heap.size + 1, 2, none⟩ = some (.int .i64 P.f2) := qB.at rfl
  have ca3 : w2.cell? ⟨w.heap.size, 3, none⟩ = some (.slice A3 P.f3.length c3) := qA.at rfl
  have cb3 : w2.cell? ⟨w.heap.size + 1, 3, none⟩ = some (.slice B3 P.f3.length d3) := qB.at rfl
  go_wp2
  go_ret
  exact ⟨rfl, hB⟩

theorem infoVisit : (Try.prog.info? 27).map (fun i => (i.zero, i.size, i.bytes)) = some (some (.agg #[.slice none 0 0, .int .i64 0, .int .i64 0, .slice none 0 0]), 4, 64) := by kernel_rfl
theorem putL_Visit (w : World) (b o : Nat) (a0 a1 a2 a3 : Value) : putL w b o [a0, a1, a2, a3] = (((w.setCell ⟨b, o, none⟩ a0).setCell ⟨b, o + 1, none⟩ a1).setCell ⟨b, o + 2, none⟩ a2).setCell ⟨b, o + 3, none⟩ a3 := rfl
theorem ctb_VisitS (l : List TVisit) : ct (dVisit l) ≤ 64 * room (dVisit l) := by
  refine ct_le_room (by omega) fun i _ => ?_
  have h1 := ct_Visit (l.getD i nVisit)
  have h2 := room_Visit (l.getD i nVisit)
  have h3_0 := ctb_VersionS (l.getD i nVisit).f0
  have h3_3 := ctb_ints (l.getD i nVisit).f3
  show sumTo (fun x => ct ((l.getD i nVisit).c x)) 4 ≤ 4 + 64 * sumTo (fun x => room ((l.getD i nVisit).c x)) 4
  omega
theorem lies_mk_Visit {lo hi m : Nat} {w : World} {l : List TVisit} {v : Value} (h : Lies lo hi w (mk m (dVisit l)) v) : ∃ A c, v = .slice A l.length c := by
  obtain ⟨A, c, e, _⟩ := h; exact ⟨A, c, e⟩
set_option maxHeartbeats 1600000 in
set_option maxRecDepth 100000 in
theorem gmark_Visit {w : World} (P : TVisit) {A0 : Option Addr} {c0 : Nat} {A3 : Option Addr} {c3 : Nat} {S0 : Nat → Prop} {S3 : Nat → Prop} (m : Nat) (h0 : Owns w (dVersion P.f0) (.slice A0 P.f0.length c0) S0) (h3 : Owns w (ints P.f3) (.slice A3 P.f3.length c3) S3) (d03 : ∀ t, S0 t → ¬ S3 t) (hin0 : ∀ {t}, S0 t → t < w.heap.size) (hin3 : ∀ {t}, S3 t → t < w.heap.size) (hm : m + ct (dVersion P.f0) + ct (ints P.f3) ≤ 1125899906842624) :
    Calls Try.prog 28 #[(Value.agg #[.slice A0 P.f0.length c0, .int .i64 P.f1, .int .i64 P.f2, .slice A3 P.f3.length c3]), .int .i64 m] w fun e w' => e = .returned (.int .i64 ((m + ct (dVersion P.f0) + ct (ints P.f3) : Nat) : Int)) ∧ Owns w' (mk (m) (dVersion P.f0)) (.slice A0 P.f0.length c0) S0 ∧ Owns w' (mk (m + ct (dVersion P.f0)) (ints P.f3)) (.slice A3 P.f3.length c3) S3 ∧ Turn (fun t => S0 t ∨ S3 t) w w' := by
  have hB : Below w.heap.size w (w.alloc (.cells #[Value.slice A0 P.f0.length c0, .int .i64 P.f1, .int .i64 P.f2, .slice A3 P.f3.length c3] 27)) := by repeat' (first | exact Below.refl _ _ | assumption | refine Below.setCell ?_ ?_ _ | refine Below.alloc ?_ ?_ _ | refine Gen.gbelow_drewN ?_ _ | refine Below.drew ?_ | exact Nat.le_refl _ | omega | (dsimp only; omega) | refine Gen.gle_alloc ?_ | refine Gen.gle_set ?_ | refine Gen.gle_drewN ?_ | refine Gen.gle_drew ?_)
  have qA := Blk.new 27 [Value.slice A0 P.f0.length c0, .int .i64 P.f1, .int .i64 P.f2, .slice A3 P.f3.length c3] w
  have h0 := h0.below hB
  have h3 := h3.below hB
  have hT : Turn (fun t => S0 t ∨ S3 t) w _ := Turn.of_below hB
  obtain ⟨m1, hm1⟩ : ∃ y : Nat, m + ct (dVersion P.f0) = y := ⟨_, rfl⟩
  obtain ⟨m2, hm2⟩ : ∃ y : Nat, m1 + ct (ints P.f3) = y := ⟨_, rfl⟩
  rw [hm1, hm2] at hm ⊢
  go_enter Try.func28, Try.ntmps28
  have ca0 : (w.alloc (.cells #[Value.slice A0 P.f0.length c0, .int .i64 P.f1, .int .i64 P.f2, .slice A3 P.f3.length c3] 27)).cell? ⟨w.heap.size, 0, none⟩ = some (.slice A0 P.f0.length c0) := qA.at rfl
  have ca1 : (w.alloc (.cells #[Value.slice A0 P.f0.length c0, .int .i64 P.f1, .int .i64 P.f2, .slice A3 P.f3.length c3] 27)).cell? ⟨w.heap.size, 1, none⟩ = some (.int .i64 P.f1) := qA.at rfl
  have ca2 : (w.alloc (.cells #[Value.slice A0 P.f0.length c0, .int .i64 P.f1, .int .i64 P.f2, .slice A3 P.f3.length c3] 27)).cell? ⟨w.heap.size, 2, none⟩ = some (.int .i64 P.f2) := qA.at rfl
  have ca3 : (w.alloc (.cells #[Value.slice A0 P.f0.length c0, .int .i64 P.f1, .int .i64 P.f2, .slice A3 P.f3.length c3] 27)).cell? ⟨w.heap.size, 3, none⟩ = some (.slice A3 P.f3.length c3) := qA.at rfl
  have hM := gmark_VersionS m h0 (by omega)
  rw [hm1] at hM
  go_wp2_with fail
  go_at_call 62
  refine Calls.mono hM ?_
  rintro e w1 ⟨rfl, ho0, ht⟩
  have qA : Blk 27 w.heap.size [Value.slice A0 P.f0.length c0, .int .i64 P.f1, .int .i64 P.f2, .slice A3 P.f3.length c3] w1 := (ht.block _ qA.lt fun hS => absurd (@hin0 _ hS) (Nat.lt_irrefl _)).trans qA
  have h0 := ho0
  have h3 := h3.turn ht (fun t a b => d03 t b a)
  have hT := hT.trans (ht.mono fun t hS => by simp [hS])
  clear ht ho0 hM ca0 ca1 ca2 ca3
  have ca0 : w1.cell? ⟨w.heap.size, 0, none⟩ = some (.slice A0 P.f0.length c0) := qA.at rfl
  have ca1 : w1.cell? ⟨w.heap.size, 1, none⟩ = some (.int .i64 P.f1) := qA.at rfl
  have ca2 : w1.cell? ⟨w.heap.size, 2, none⟩ = some (.int .i64 P.f2) := qA.at rfl
  have ca3 : w1.cell? ⟨w.heap.size, 3, none⟩ = some (.slice A3 P.f3.length c3) := qA.at rfl
  have hM := gmark_IntS m1 h3 (by omega)
  rw [hm2] at hM
  go_wp2_with fail
  go_at_call 63
  refine Calls.mono hM ?_
  rintro e w2 ⟨rfl, ho3, ht⟩
  have qA : Blk 27 w.heap.size [Value.slice A0 P.f0.length c0, .int .i64 P.f1, .int .i64 P.f2, .slice A3 P.f3.length c3] w2 := (ht.block _ qA.lt fun hS => absurd (@hin3 _ hS) (Nat.lt_irrefl _)).trans qA
  have h0 := h0.turn ht (d03)
  have h3 := ho3
  have hT := hT.trans (ht.mono fun t hS => by simp [hS])
  clear ht ho3 hM ca0 ca1 ca2 ca3
  go_wp2
  go_ret
  exact ⟨rfl, h0, h3, hT⟩
end Go.Proofs.Ytagnhfalmefbhaa.Gen
