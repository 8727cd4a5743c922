/-
  A struct (Version): its cells in the words for data of any depth, and the exact laws' helpers at it.
  Conditions: what it leads to lies in memory.
-/
import Derived.Test.YtagnhfalmefbhaaDatInts
import Derived.Test.YtagnhfalmefbhaaBlk
import Derived.Test.YtagnhfalmefbhaaGAddress
import Derived.Test.YtagnhfalmefbhaaGResource
import Derived.WalkKit
import Derived.Handy
import Derived.Deep.RegionHeld3
import Derived.Deep.CutBlock
import Derived.Deep.DeepCutAuto
namespace Go.Proofs.Ytagnhfalmefbhaa.Gen
open Go Go.RowKit Go.Proofs.Ytagnhfalmefbhaa.Mem

structure TVersion where
  f0 : TAddress
  f1 : Int
  f2 : TResource
def nVersion : TVersion := ⟨nAddress, 0, nResource⟩
def TVersion.c (P : TVersion) : Nat → Dat
  | 0 => .int P.f0.f0
  | 1 => .int P.f0.f1
  | 2 => .int P.f0.f2
  | 3 => .int P.f1
  | 4 => .int P.f2.f0
  | 5 => ints P.f2.f1
  | 6 => .int P.f2.f2.f0
  | 7 => .int P.f2.f2.f1
  | 8 => .int P.f2.f2.f2
  | _ => .int 0
def dVersion (l : List TVersion) : Dat := .row 9 l.length fun i => (l.getD i nVersion).c
/-- The cells of an element. -/
structure CVersion (w : World) (b o : Nat) (P : TVersion) (A5 : Option Addr) (c5 : Nat) : Prop where
  c0 : w.cell? ⟨b, o, none⟩ = some (.int .i64 P.f0.f0)
  c1 : w.cell? ⟨b, o + 1, none⟩ = some (.int .i64 P.f0.f1)
  c2 : w.cell? ⟨b, o + 2, none⟩ = some (.int .i64 P.f0.f2)
  c3 : w.cell? ⟨b, o + 3, none⟩ = some (.int .i64 P.f1)
  c4 : w.cell? ⟨b, o + 4, none⟩ = some (.int .i64 P.f2.f0)
  c5' : w.cell? ⟨b, o + 5, none⟩ = some (.slice A5 P.f2.f1.length c5)
  c6 : w.cell? ⟨b, o + 6, none⟩ = some (.int .i64 P.f2.f2.f0)
  c7 : w.cell? ⟨b, o + 7, none⟩ = some (.int .i64 P.f2.f2.f1)
  c8 : w.cell? ⟨b, o + 8, none⟩ = some (.int .i64 P.f2.f2.f2)
section
variable {lo hi b o : Nat} {w w' : World} {P : TVersion} {A5 : Option Addr} {c5 : Nat}
theorem CVersion.keep (h : CVersion w b o P A5 c5) (hb : w'.heap[b]? = w.heap[b]?) : CVersion w' b o P A5 c5 :=
  ⟨by rw [Mem.cell_of_heap hb]; exact h.c0, by rw [Mem.cell_of_heap hb]; exact h.c1, by rw [Mem.cell_of_heap hb]; exact h.c2, by rw [Mem.cell_of_heap hb]; exact h.c3, by rw [Mem.cell_of_heap hb]; exact h.c4, by rw [Mem.cell_of_heap hb]; exact h.c5', by rw [Mem.cell_of_heap hb]; exact h.c6, by rw [Mem.cell_of_heap hb]; exact h.c7, by rw [Mem.cell_of_heap hb]; exact h.c8⟩
theorem CVersion.lt (h : CVersion w b o P A5 c5) : b < w.heap.size := Mem.cell_lt h.c0
theorem CVersion.below (h : CVersion w b o P A5 c5) (hb : Below w.heap.size w w') : CVersion w' b o P A5 c5 := h.keep (hb.block _ h.lt)
theorem CVersion.all (h : CVersion w b o P A5 c5) : w.cell? ⟨b, o, none⟩ = some (.int .i64 P.f0.f0) ∧ w.cell? ⟨b, o + 1, none⟩ = some (.int .i64 P.f0.f1) ∧ w.cell? ⟨b, o + 2, none⟩ = some (.int .i64 P.f0.f2) ∧ w.cell? ⟨b, o + 3, none⟩ = some (.int .i64 P.f1) ∧ w.cell? ⟨b, o + 4, none⟩ = some (.int .i64 P.f2.f0) ∧ w.cell? ⟨b, o + 5, none⟩ = some (.slice A5 P.f2.f1.length c5) ∧ w.cell? ⟨b, o + 6, none⟩ = some (.int .i64 P.f2.f2.f0) ∧ w.cell? ⟨b, o + 7, none⟩ = some (.int .i64 P.f2.f2.f1) ∧ w.cell? ⟨b, o + 8, none⟩ = some (.int .i64 P.f2.f2.f2) := ⟨h.c0, h.c1, h.c2, h.c3, h.c4, h.c5', h.c6, h.c7, h.c8⟩
end
theorem at_Version {lo hi : Nat} {w : World} {A : Option Addr} {n c : Nat} {l : List TVersion} (h : Lies lo hi w (dVersion l) (.slice A n c)) {j : Nat} (hj : j < n) :
    ∃ (b off : Nat) (A5 : Option Addr) (c5 : Nat), A = some ⟨b, off, none⟩ ∧ lo ≤ b ∧ b < hi ∧ CVersion w b (off + j * 9) (l.getD j nVersion) A5 c5 ∧ Lies lo hi w (ints (l.getD j nVersion).f2.f1) (.slice A5 (l.getD j nVersion).f2.f1.length c5) ∧ ((Lit.int .i64 (l.getD j nVersion).f0.f0).wf = true ∧ (Lit.int .i64 (l.getD j nVersion).f0.f1).wf = true ∧ (Lit.int .i64 (l.getD j nVersion).f0.f2).wf = true ∧ (Lit.int .i64 (l.getD j nVersion).f1).wf = true ∧ (Lit.int .i64 (l.getD j nVersion).f2.f0).wf = true ∧ (Lit.int .i64 (l.getD j nVersion).f2.f2.f0).wf = true ∧ (Lit.int .i64 (l.getD j nVersion).f2.f2.f1).wf = true ∧ (Lit.int .i64 (l.getD j nVersion).f2.f2.f2).wf = true ∧ True) := by
  obtain ⟨A', c', e, h1, h2, h3⟩ := h
  injection e with e1 e2 e3
  subst e1 e2 e3
  obtain ⟨b, off, rfl, k1, k2, k3⟩ := h3 (by omega)
  have k4 : ∀ x, x < 9 → ∃ u, w.cell? ⟨b, off + j * 9 + x, none⟩ = some u ∧ Lies lo hi w ((l.getD j nVersion).c x) u := fun x hx => k3 j hj x hx
  clear k3 h3
  obtain ⟨P, hP⟩ : ∃ P, l.getD j nVersion = P := ⟨_, rfl⟩
  rw [hP] at k4 ⊢
  obtain ⟨u0, g0, q0⟩ := k4 0 (by omega)
  replace q0 : Lies lo hi w (.int P.f0.f0) u0 := q0
  obtain ⟨rfl, w0⟩ := lies_int q0
  obtain ⟨u1, g1, q1⟩ := k4 1 (by omega)
  replace q1 : Lies lo hi w (.int P.f0.f1) u1 := q1
  obtain ⟨rfl, w1⟩ := lies_int q1
  obtain ⟨u2, g2, q2⟩ := k4 2 (by omega)
  replace q2 : Lies lo hi w (.int P.f0.f2) u2 := q2
  obtain ⟨rfl, w2⟩ := lies_int q2
  obtain ⟨u3, g3, q3⟩ := k4 3 (by omega)
  replace q3 : Lies lo hi w (.int P.f1) u3 := q3
  obtain ⟨rfl, w3⟩ := lies_int q3
  obtain ⟨u4, g4, q4⟩ := k4 4 (by omega)
  replace q4 : Lies lo hi w (.int P.f2.f0) u4 := q4
  obtain ⟨rfl, w4⟩ := lies_int q4
  obtain ⟨u5, g5, q5⟩ := k4 5 (by omega)
  replace q5 : Lies lo hi w (ints P.f2.f1) u5 := q5
  obtain ⟨A5, c5, rfl⟩ := lies_ints q5
  obtain ⟨u6, g6, q6⟩ := k4 6 (by omega)
  replace q6 : Lies lo hi w (.int P.f2.f2.f0) u6 := q6
  obtain ⟨rfl, w6⟩ := lies_int q6
  obtain ⟨u7, g7, q7⟩ := k4 7 (by omega)
  replace q7 : Lies lo hi w (.int P.f2.f2.f1) u7 := q7
  obtain ⟨rfl, w7⟩ := lies_int q7
  obtain ⟨u8, g8, q8⟩ := k4 8 (by omega)
  replace q8 : Lies lo hi w (.int P.f2.f2.f2) u8 := q8
  obtain ⟨rfl, w8⟩ := lies_int q8
  exact ⟨b, off, A5, c5, rfl, k1, k2, ⟨g0, g1, g2, g3, g4, g5, g6, g7, g8⟩, q5, ⟨w0, w1, w2, w3, w4, w6, w7, w8, trivial⟩⟩
theorem lies_Version {lo hi : Nat} {w : World} {l : List TVersion} {v : Value} (h : Lies lo hi w (dVersion l) v) : ∃ A c, v = .slice A l.length c := by
  obtain ⟨A, c, e, _⟩ := h; exact ⟨A, c, e⟩
theorem room_Version (P : TVersion) : sumTo (fun x => room (P.c x)) 9 = room (ints P.f2.f1) := by
  first | (simp [sumTo, TVersion.c, room]; done) | (simp [sumTo, TVersion.c, room]; omega)
theorem ct_Version (P : TVersion) : sumTo (fun x => ct (P.c x)) 9 = 8 + ct (ints P.f2.f1) := by
  first | (simp [sumTo, TVersion.c, ct]; done) | (simp [sumTo, TVersion.c, ct]; omega)

set_option maxHeartbeats 1600000 in
set_option maxRecDepth 100000 in
theorem gto_Version {lo hi : Nat} {w : World} (P : TVersion) {A5 : Option Addr} {c5 : Nat} (h5 : Lies lo hi w (ints P.f2.f1) (.slice A5 P.f2.f1.length c5)) (hh : hi ≤ w.heap.size) (hm5 : room (ints P.f2.f1) ≤ 1099511627776) :
    Calls Try.prog 83 #[(Value.agg #[.int .i64 P.f0.f0, .int .i64 P.f0.f1, .int .i64 P.f0.f2, .int .i64 P.f1, .int .i64 P.f2.f0, .slice A5 P.f2.f1.length c5, .int .i64 P.f2.f2.f0, .int .i64 P.f2.f2.f1, .int .i64 P.f2.f2.f2])] w fun e w' => ∃ (a5 : Option Addr) (e5 : Nat), e = .returned (Value.agg #[.int .i64 P.f0.f0, .int .i64 P.f0.f1, .int .i64 P.f0.f2, .int .i64 P.f1, .int .i64 P.f2.f0, .slice a5 P.f2.f1.length e5, .int .i64 P.f2.f2.f0, .int .i64 P.f2.f2.f1, .int .i64 P.f2.f2.f2]) ∧ OwnD (w.heap.size) (w'.heap.size) w' (ints P.f2.f1) (.slice a5 P.f2.f1.length e5) ∧ Below w.heap.size w w' := by
  obtain ⟨O1, hO1⟩ : ∃ O, O = Obj.cells #[Value.int .i64 P.f0.f0, .int .i64 P.f0.f1, .int .i64 P.f0.f2, .int .i64 P.f1, .int .i64 P.f2.f0, .slice A5 P.f2.f1.length c5, .int .i64 P.f2.f2.f0, .int .i64 P.f2.f2.f1, .int .i64 P.f2.f2.f2] 121 (0, 0) := ⟨_, rfl⟩
  obtain ⟨O2, hO2⟩ : ∃ O, O = Obj.cells #[Value.int .i64 0, .int .i64 0, .int .i64 0, .int .i64 0, .int .i64 0, .slice none 0 0, .int .i64 0, .int .i64 0, .int .i64 0] 103 (0, 0) := ⟨_, rfl⟩
  obtain ⟨O3, hO3⟩ : ∃ O, O = Obj.cells #[Value.int .i64 0, .int .i64 0, .int .i64 0, .int .i64 0, .int .i64 0, .slice none 0 0, .int .i64 0, .int .i64 0, .int .i64 0] 103 (0, 0) := ⟨_, rfl⟩
  have hB : Below w.heap.size w (((w.alloc O1).alloc O2).alloc O3) := by repeat' (first | exact Below.refl _ _ | assumption | refine Below.setCell ?_ ?_ _ | refine Below.alloc ?_ ?_ _ | refine Gen.gbelow_drewN ?_ _ | refine Below.drew ?_ | exact Nat.le_refl _ | omega | (dsimp only; omega) | refine Gen.gle_alloc ?_ | refine Gen.gle_set ?_ | refine Gen.gle_drewN ?_ | refine Gen.gle_drew ?_)
  have qA : Blk 121 w.heap.size [Value.int .i64 P.f0.f0, .int .i64 P.f0.f1, .int .i64 P.f0.f2, .int .i64 P.f1, .int .i64 P.f2.f0, .slice A5 P.f2.f1.length c5, .int .i64 P.f2.f2.f0, .int .i64 P.f2.f2.f1, .int .i64 P.f2.f2.f2] (((w.alloc O1).alloc O2).alloc O3) := by rw [hO1]; exact ((Blk.new _ _ w).alloc _).alloc _
  have qR : Blk 103 (w.heap.size + 1) [Value.int .i64 0, .int .i64 0, .int .i64 0, .int .i64 0, .int .i64 0, .slice none 0 0, .int .i64 0, .int .i64 0, .int .i64 0] (((w.alloc O1).alloc O2).alloc O3) := by have := (Blk.new 103 [Value.int .i64 0, .int .i64 0, .int .i64 0, .int .i64 0, .int .i64 0, .slice none 0 0, .int .i64 0, .int .i64 0, .int .i64 0] (w.alloc O1)).alloc O3; rw [gsize_alloc] at this; rw [hO2]; exact this
  have qO : Blk 103 (w.heap.size + 1 + 1) [Value.int .i64 0, .int .i64 0, .int .i64 0, .int .i64 0, .int .i64 0, .slice none 0 0, .int .i64 0, .int .i64 0, .int .i64 0] (((w.alloc O1).alloc O2).alloc O3) := by have := Blk.new 103 [Value.int .i64 0, .int .i64 0, .int .i64 0, .int .i64 0, .int .i64 0, .slice none 0 0, .int .i64 0, .int .i64 0, .int .i64 0] ((w.alloc O1).alloc O2); rw [gsize_alloc, gsize_alloc] at this; rw [hO3]; exact this
  have hS : (((w.alloc O1).alloc O2).alloc O3).heap.size = w.heap.size + 3 := by simp only [gsize_alloc]
  subst hO1 hO2 hO3
  go_enter Try.func83, Try.ntmps83
  go_wp2_with fail
  go_at_call 57
  refine Calls.mono (gto_Address P.f0) ?_
  rintro e w1 ⟨rfl, hb⟩
  have qA := qA.below hb
  have qR := qR.below hb
  have qO := qO.below hb
  have hz1 := hb.size
  rw [hS] at hz1
  have hB := hB.trans (hb.mono hB.size)
  clear hb
  clear hS
  have fO := qO.free
  have fR := qR.free
  have ca0 : w1.cell? ⟨w.heap.size, 0, none⟩ = some (.int .i64 P.f0.f0) := qA.at rfl
  have ca1 : w1.cell? ⟨w.heap.size, 1, none⟩ = some (.int .i64 P.f0.f1) := qA.at rfl
  have ca2 : w1.cell? ⟨w.heap.size, 2, none⟩ = some (.int .i64 P.f0.f2) := qA.at rfl
  have ca3 : w1.cell? ⟨w.heap.size, 3, none⟩ = some (.int .i64 P.f1) := qA.at rfl
  have ca4 : w1.cell? ⟨w.heap.size, 4, none⟩ = some (.int .i64 P.f2.f0) := qA.at rfl
  have ca5 : w1.cell? ⟨w.heap.size, 5, none⟩ = some (.slice A5 P.f2.f1.length c5) := qA.at rfl
  have ca6 : w1.cell? ⟨w.heap.size, 6, none⟩ = some (.int .i64 P.f2.f2.f0) := qA.at rfl
  have ca7 : w1.cell? ⟨w.heap.size, 7, none⟩ = some (.int .i64 P.f2.f2.f1) := qA.at rfl
  have ca8 : w1.cell? ⟨w.heap.size, 8, none⟩ = some (.int .i64 P.f2.f2.f2) := qA.at rfl
  have co0 : w1.cell? ⟨w.heap.size + 1 + 1, 0, none⟩ = some (.int .i64 0) := qO.at rfl
  have cr0 : w1.cell? ⟨w.heap.size + 1, 0, none⟩ = some (.int .i64 0) := qR.at rfl
  have fo0 : w1.frozen? ⟨w.heap.size + 1 + 1, 0, none⟩ = false := fO 0
  have fr0 : w1.frozen? ⟨w.heap.size + 1, 0, none⟩ = false := fR 0
  have co1 : w1.cell? ⟨w.heap.size + 1 + 1, 1, none⟩ = some (.int .i64 0) := qO.at rfl
  have cr1 : w1.cell? ⟨w.heap.size + 1, 1, none⟩ = some (.int .i64 0) := qR.at rfl
  have fo1 : w1.frozen? ⟨w.heap.size + 1 + 1, 1, none⟩ = false := fO 1
  have fr1 : w1.frozen? ⟨w.heap.size + 1, 1, none⟩ = false := fR 1
  have co2 : w1.cell? ⟨w.heap.size + 1 + 1, 2, none⟩ = some (.int .i64 0) := qO.at rfl
  have cr2 : w1.cell? ⟨w.heap.size + 1, 2, none⟩ = some (.int .i64 0) := qR.at rfl
  have fo2 : w1.frozen? ⟨w.heap.size + 1 + 1, 2, none⟩ = false := fO 2
  have fr2 : w1.frozen? ⟨w.heap.size + 1, 2, none⟩ = false := fR 2
  have co3 : w1.cell? ⟨w.heap.size + 1 + 1, 3, none⟩ = some (.int .i64 0) := qO.at rfl
  have cr3 : w1.cell? ⟨w.heap.size + 1, 3, none⟩ = some (.int .i64 0) := qR.at rfl
  have fo3 : w1.frozen? ⟨w.heap.size + 1 + 1, 3, none⟩ = false := fO 3
  have fr3 : w1.frozen? ⟨w.heap.size + 1, 3, none⟩ = false := fR 3
  have co4 : w1.cell? ⟨w.heap.size + 1 + 1, 4, none⟩ = some (.int .i64 0) := qO.at rfl
  have cr4 : w1.cell? ⟨w.heap.size + 1, 4, none⟩ = some (.int .i64 0) := qR.at rfl
  have fo4 : w1.frozen? ⟨w.heap.size + 1 + 1, 4, none⟩ = false := fO 4
  have fr4 : w1.frozen? ⟨w.heap.size + 1, 4, none⟩ = false := fR 4
  have co5 : w1.cell? ⟨w.heap.size + 1 + 1, 5, none⟩ = some (.slice none 0 0) := qO.at rfl
  have cr5 : w1.cell? ⟨w.heap.size + 1, 5, none⟩ = some (.slice none 0 0) := qR.at rfl
  have fo5 : w1.frozen? ⟨w.heap.size + 1 + 1, 5, none⟩ = false := fO 5
  have fr5 : w1.frozen? ⟨w.heap.size + 1, 5, none⟩ = false := fR 5
  have co6 : w1.cell? ⟨w.heap.size + 1 + 1, 6, none⟩ = some (.int .i64 0) := qO.at rfl
  have cr6 : w1.cell? ⟨w.heap.size + 1, 6, none⟩ = some (.int .i64 0) := qR.at rfl
  have fo6 : w1.frozen? ⟨w.heap.size + 1 + 1, 6, none⟩ = false := fO 6
  have fr6 : w1.frozen? ⟨w.heap.size + 1, 6, none⟩ = false := fR 6
  have co7 : w1.cell? ⟨w.heap.size + 1 + 1, 7, none⟩ = some (.int .i64 0) := qO.at rfl
  have cr7 : w1.cell? ⟨w.heap.size + 1, 7, none⟩ = some (.int .i64 0) := qR.at rfl
  have fo7 : w1.frozen? ⟨w.heap.size + 1 + 1, 7, none⟩ = false := fO 7
  have fr7 : w1.frozen? ⟨w.heap.size + 1, 7, none⟩ = false := fR 7
  have co8 : w1.cell? ⟨w.heap.size + 1 + 1, 8, none⟩ = some (.int .i64 0) := qO.at rfl
  have cr8 : w1.cell? ⟨w.heap.size + 1, 8, none⟩ = some (.int .i64 0) := qR.at rfl
  have fo8 : w1.frozen? ⟨w.heap.size + 1 + 1, 8, none⟩ = false := fO 8
  have fr8 : w1.frozen? ⟨w.heap.size + 1, 8, none⟩ = false := fR 8
  have hV : Below w.heap.size w ((((w1.setCell ⟨w.heap.size + 1 + 1, 0, none⟩ (.int .i64 P.f0.f0)).setCell ⟨w.heap.size + 1 + 1, 1, none⟩ (.int .i64 P.f0.f1)).setCell ⟨w.heap.size + 1 + 1, 2, none⟩ (.int .i64 P.f0.f2)).setCell ⟨w.heap.size + 1 + 1, 3, none⟩ (.int .i64 P.f1)) := by (iterate 4 (refine Below.setCell ?_ (by dsimp only; omega) _)); exact hB
  have hZ : Zone 0 (w.heap.size + 3) w1 ((((w1.setCell ⟨w.heap.size + 1 + 1, 0, none⟩ (.int .i64 P.f0.f0)).setCell ⟨w.heap.size + 1 + 1, 1, none⟩ (.int .i64 P.f0.f1)).setCell ⟨w.heap.size + 1 + 1, 2, none⟩ (.int .i64 P.f0.f2)).setCell ⟨w.heap.size + 1 + 1, 3, none⟩ (.int .i64 P.f1)) := by (iterate 4 (refine Zone.setCell ?_ ⟨by omega, by omega⟩ _)); exact Zone.refl _ _ _
  have hVs : ((((w1.setCell ⟨w.heap.size + 1 + 1, 0, none⟩ (.int .i64 P.f0.f0)).setCell ⟨w.heap.size + 1 + 1, 1, none⟩ (.int .i64 P.f0.f1)).setCell ⟨w.heap.size + 1 + 1, 2, none⟩ (.int .i64 P.f0.f2)).setCell ⟨w.heap.size + 1 + 1, 3, none⟩ (.int .i64 P.f1)).heap.size = w1.heap.size := by simp only [gsize_set]
  have pO : Blk 103 (w.heap.size + 1 + 1) [Value.int .i64 P.f0.f0, .int .i64 P.f0.f1, .int .i64 P.f0.f2, .int .i64 P.f1, .int .i64 0, .slice none 0 0, .int .i64 0, .int .i64 0, .int .i64 0] ((((w1.setCell ⟨w.heap.size + 1 + 1, 0, none⟩ (.int .i64 P.f0.f0)).setCell ⟨w.heap.size + 1 + 1, 1, none⟩ (.int .i64 P.f0.f1)).setCell ⟨w.heap.size + 1 + 1, 2, none⟩ (.int .i64 P.f0.f2)).setCell ⟨w.heap.size + 1 + 1, 3, none⟩ (.int .i64 P.f1)) := ((((qO.set 0 (.int .i64 P.f0.f0)).set 1 (.int .i64 P.f0.f1)).set 2 (.int .i64 P.f0.f2)).set 3 (.int .i64 P.f1))
  have pR := ((((qR.other (a := ⟨w.heap.size + 1 + 1, 0, none⟩) (.int .i64 P.f0.f0) (by dsimp only; omega)).other (a := ⟨w.heap.size + 1 + 1, 1, none⟩) (.int .i64 P.f0.f1) (by dsimp only; omega)).other (a := ⟨w.heap.size + 1 + 1, 2, none⟩) (.int .i64 P.f0.f2) (by dsimp only; omega)).other (a := ⟨w.heap.size + 1 + 1, 3, none⟩) (.int .i64 P.f1) (by dsimp only; omega))
  have pA := ((((qA.other (a := ⟨w.heap.size + 1 + 1, 0, none⟩) (.int .i64 P.f0.f0) (by dsimp only; omega)).other (a := ⟨w.heap.size + 1 + 1, 1, none⟩) (.int .i64 P.f0.f1) (by dsimp only; omega)).other (a := ⟨w.heap.size + 1 + 1, 2, none⟩) (.int .i64 P.f0.f2) (by dsimp only; omega)).other (a := ⟨w.heap.size + 1 + 1, 3, none⟩) (.int .i64 P.f1) (by dsimp only; omega))
  go_wp2_with fail
  go_at_call 22
  refine Calls.mono (gto_Resource (lo := lo) (hi := hi) P.f2 (h5.under (B := w.heap.size) hV hh) (Nat.le_trans hh hV.size) hm5) ?_
  rintro e w2 ⟨a5, e5, rfl, ho5, hb⟩
  have qA := pA.below hb
  have qR := pR.below hb
  have qO := pO.below hb
  have hz2 := hb.size
  rw [hVs] at hz2
  try rw [hVs] at ho5
  have hB := hV.trans (hb.mono hV.size)
  clear pA pR pO hV hZ hVs
  clear hb
  have fO := qO.free
  have fR := qR.free
  have ca0 : w2.cell? ⟨w.heap.size, 0, none⟩ = some (.int .i64 P.f0.f0) := qA.at rfl
  have ca1 : w2.cell? ⟨w.heap.size, 1, none⟩ = some (.int .i64 P.f0.f1) := qA.at rfl
  have ca2 : w2.cell? ⟨w.heap.size, 2, none⟩ = some (.int .i64 P.f0.f2) := qA.at rfl
  have ca3 : w2.cell? ⟨w.heap.size, 3, none⟩ = some (.int .i64 P.f1) := qA.at rfl
  have ca4 : w2.cell? ⟨w.heap.size, 4, none⟩ = some (.int .i64 P.f2.f0) := qA.at rfl
  have ca5 : w2.cell? ⟨w.heap.size, 5, none⟩ = some (.slice A5 P.f2.f1.length c5) := qA.at rfl
  have ca6 : w2.cell? ⟨w.heap.size, 6, none⟩ = some (.int .i64 P.f2.f2.f0) := qA.at rfl
  have ca7 : w2.cell? ⟨w.heap.size, 7, none⟩ = some (.int .i64 P.f2.f2.f1) := qA.at rfl
  have ca8 : w2.cell? ⟨w.heap.size, 8, none⟩ = some (.int .i64 P.f2.f2.f2) := qA.at rfl
  have co0 : w2.cell? ⟨w.heap.size + 1 + 1, 0, none⟩ = some (.int .i64 P.f0.f0) := qO.at rfl
  have cr0 : w2.cell? ⟨w.heap.size + 1, 0, none⟩ = some (.int .i64 0) := qR.at rfl
  have fo0 : w2.frozen? ⟨w.heap.size + 1 + 1, 0, none⟩ = false := fO 0
  have fr0 : w2.frozen? ⟨w.heap.size + 1, 0, none⟩ = false := fR 0
  have co1 : w2.cell? ⟨w.heap.size + 1 + 1, 1, none⟩ = some (.int .i64 P.f0.f1) := qO.at rfl
  have cr1 : w2.cell? ⟨w.heap.size + 1, 1, none⟩ = some (.int .i64 0) := qR.at rfl
  have fo1 : w2.frozen? ⟨w.heap.size + 1 + 1, 1, none⟩ = false := fO 1
  have fr1 : w2.frozen? ⟨w.heap.size + 1, 1, none⟩ = false := fR 1
  have co2 : w2.cell? ⟨w.heap.size + 1 + 1, 2, none⟩ = some (.int .i64 P.f0.f2) := qO.at rfl
  have cr2 : w2.cell? ⟨w.heap.size + 1, 2, none⟩ = some (.int .i64 0) := qR.at rfl
  have fo2 : w2.frozen? ⟨w.heap.size + 1 + 1, 2, none⟩ = false := fO 2
  have fr2 : w2.frozen? ⟨w.heap.size + 1, 2, none⟩ = false := fR 2
  have co3 : w2.cell? ⟨w.heap.size + 1 + 1, 3, none⟩ = some (.int .i64 P.f1) := qO.at rfl
  have cr3 : w2.cell? ⟨w.heap.size + 1, 3, none⟩ = some (.int .i64 0) := qR.at rfl
  have fo3 : w2.frozen? ⟨w.heap.size + 1 + 1, 3, none⟩ = false := fO 3
  have fr3 : w2.frozen? ⟨w.heap.size + 1, 3, none⟩ = false := fR 3
  have co4 : w2.cell? ⟨w.heap.size + 1 + 1, 4, none⟩ = some (.int .i64 0) := qO.at rfl
  have cr4 : w2.cell? ⟨w.heap.size + 1, 4, none⟩ = some (.int .i64 0) := qR.at rfl
  have fo4 : w2.frozen? ⟨w.heap.size + 1 + 1, 4, none⟩ = false := fO 4
  have fr4 : w2.frozen? ⟨w.heap.size + 1, 4, none⟩ = false := fR 4
  have co5 : w2.cell? ⟨w.heap.size + 1 + 1, 5, none⟩ = some (.slice none 0 0) := qO.at rfl
  have cr5 : w2.cell? ⟨w.heap.size + 1, 5, none⟩ = some (.slice none 0 0) := qR.at rfl
  have fo5 : w2.frozen? ⟨w.heap.size + 1 + 1, 5, none⟩ = false := fO 5
  have fr5 : w2.frozen? ⟨w.heap.size + 1, 5, none⟩ = false := fR 5
  have co6 : w2.cell? ⟨w.heap.size + 1 + 1, 6, none⟩ = some (.int .i64 0) := qO.at rfl
  have cr6 : w2.cell? ⟨w.heap.size + 1, 6, none⟩ = some (.int .i64 0) := qR.at rfl
  have fo6 : w2.frozen? ⟨w.heap.size + 1 + 1, 6, none⟩ = false := fO 6
  have fr6 : w2.frozen? ⟨w.heap.size + 1, 6, none⟩ = false := fR 6
  have co7 : w2.cell? ⟨w.heap.size + 1 + 1, 7, none⟩ = some (.int .i64 0) := qO.at rfl
  have cr7 : w2.cell? ⟨w.heap.size + 1, 7, none⟩ = some (.int .i64 0) := qR.at rfl
  have fo7 : w2.frozen? ⟨w.heap.size + 1 + 1, 7, none⟩ = false := fO 7
  have fr7 : w2.frozen? ⟨w.heap.size + 1, 7, none⟩ = false := fR 7
  have co8 : w2.cell? ⟨w.heap.size + 1 + 1, 8, none⟩ = some (.int .i64 0) := qO.at rfl
  have cr8 : w2.cell? ⟨w.heap.size + 1, 8, none⟩ = some (.int .i64 0) := qR.at rfl
  have fo8 : w2.frozen? ⟨w.heap.size + 1 + 1, 8, none⟩ = false := fO 8
  have fr8 : w2.frozen? ⟨w.heap.size + 1, 8, none⟩ = false := fR 8
  go_upto_region 5 with fail
  obtain ⟨V, hV⟩ : ∃ V, V = (((((w2.setCell ⟨w.heap.size + 1 + 1, 4, none⟩ (.int .i64 P.f2.f0)).setCell ⟨w.heap.size + 1 + 1, 5, none⟩ (.slice a5 P.f2.f1.length e5)).setCell ⟨w.heap.size + 1 + 1, 6, none⟩ (.int .i64 P.f2.f2.f0)).setCell ⟨w.heap.size + 1 + 1, 7, none⟩ (.int .i64 P.f2.f2.f1)).setCell ⟨w.heap.size + 1 + 1, 8, none⟩ (.int .i64 P.f2.f2.f2)) := ⟨_, rfl⟩
  have hBV : Below w.heap.size w V := by rw [hV]; (iterate 5 (refine Below.setCell ?_ (by dsimp only; omega) _)); exact hB
  have hZV : Zone 0 (w.heap.size + 3) w2 V := by rw [hV]; (iterate 5 (refine Zone.setCell ?_ ⟨by omega, by omega⟩ _)); exact Zone.refl _ _ _
  have hVs : V.heap.size = w2.heap.size := by rw [hV]; simp only [gsize_set]
  have pO : Blk 103 (w.heap.size + 1 + 1) [Value.int .i64 P.f0.f0, .int .i64 P.f0.f1, .int .i64 P.f0.f2, .int .i64 P.f1, .int .i64 P.f2.f0, .slice a5 P.f2.f1.length e5, .int .i64 P.f2.f2.f0, .int .i64 P.f2.f2.f1, .int .i64 P.f2.f2.f2] V := by rw [hV]; exact (((((qO.set 4 (.int .i64 P.f2.f0)).set 5 (.slice a5 P.f2.f1.length e5)).set 6 (.int .i64 P.f2.f2.f0)).set 7 (.int .i64 P.f2.f2.f1)).set 8 (.int .i64 P.f2.f2.f2))
  have pR : Blk 103 (w.heap.size + 1) [Value.int .i64 0, .int .i64 0, .int .i64 0, .int .i64 0, .int .i64 0, .slice none 0 0, .int .i64 0, .int .i64 0, .int .i64 0] V := by rw [hV]; exact (((((qR.other (a := ⟨w.heap.size + 1 + 1, 4, none⟩) (.int .i64 P.f2.f0) (by dsimp only; omega)).other (a := ⟨w.heap.size + 1 + 1, 5, none⟩) (.slice a5 P.f2.f1.length e5) (by dsimp only; omega)).other (a := ⟨w.heap.size + 1 + 1, 6, none⟩) (.int .i64 P.f2.f2.f0) (by dsimp only; omega)).other (a := ⟨w.heap.size + 1 + 1, 7, none⟩) (.int .i64 P.f2.f2.f1) (by dsimp only; omega)).other (a := ⟨w.heap.size + 1 + 1, 8, none⟩) (.int .i64 P.f2.f2.f2) (by dsimp only; omega))
  have ho5 := OwnD.zone ho5 hZV (Or.inr (by omega))
  rw [← hV]
  clear hV hZV qA qR qO fO fR ca0 co0 cr0 fo0 fr0 ca1 co1 cr1 fo1 fr1 ca2 co2 cr2 fo2 fr2 ca3 co3 cr3 fo3 fr3 ca4 co4 cr4 fo4 fr4 ca5 co5 cr5 fo5 fr5 ca6 co6 cr6 fo6 fr6 ca7 co7 cr7 fo7 fr7 ca8 co8 cr8 fo8 fr8 hB
  have co0 : V.cell? ⟨w.heap.size + 1 + 1, 0, none⟩ = some (.int .i64 P.f0.f0) := pO.at rfl
  have cr0 : V.cell? ⟨w.heap.size + 1, 0, none⟩ = some (.int .i64 0) := pR.at rfl
  have fr0 : V.frozen? ⟨w.heap.size + 1, 0, none⟩ = false := pR.free 0
  have co1 : V.cell? ⟨w.heap.size + 1 + 1, 1, none⟩ = some (.int .i64 P.f0.f1) := pO.at rfl
  have cr1 : V.cell? ⟨w.heap.size + 1, 1, none⟩ = some (.int .i64 0) := pR.at rfl
  have fr1 : V.frozen? ⟨w.heap.size + 1, 1, none⟩ = false := pR.free 1
  have co2 : V.cell? ⟨w.heap.size + 1 + 1, 2, none⟩ = some (.int .i64 P.f0.f2) := pO.at rfl
  have cr2 : V.cell? ⟨w.heap.size + 1, 2, none⟩ = some (.int .i64 0) := pR.at rfl
  have fr2 : V.frozen? ⟨w.heap.size + 1, 2, none⟩ = false := pR.free 2
  have co3 : V.cell? ⟨w.heap.size + 1 + 1, 3, none⟩ = some (.int .i64 P.f1) := pO.at rfl
  have cr3 : V.cell? ⟨w.heap.size + 1, 3, none⟩ = some (.int .i64 0) := pR.at rfl
  have fr3 : V.frozen? ⟨w.heap.size + 1, 3, none⟩ = false := pR.free 3
  have co4 : V.cell? ⟨w.heap.size + 1 + 1, 4, none⟩ = some (.int .i64 P.f2.f0) := pO.at rfl
  have cr4 : V.cell? ⟨w.heap.size + 1, 4, none⟩ = some (.int .i64 0) := pR.at rfl
  have fr4 : V.frozen? ⟨w.heap.size + 1, 4, none⟩ = false := pR.free 4
  have co5 : V.cell? ⟨w.heap.size + 1 + 1, 5, none⟩ = some (.slice a5 P.f2.f1.length e5) := pO.at rfl
  have cr5 : V.cell? ⟨w.heap.size + 1, 5, none⟩ = some (.slice none 0 0) := pR.at rfl
  have fr5 : V.frozen? ⟨w.heap.size + 1, 5, none⟩ = false := pR.free 5
  have co6 : V.cell? ⟨w.heap.size + 1 + 1, 6, none⟩ = some (.int .i64 P.f2.f2.f0) := pO.at rfl
  have cr6 : V.cell? ⟨w.heap.size + 1, 6, none⟩ = some (.int .i64 0) := pR.at rfl
  have fr6 : V.frozen? ⟨w.heap.size + 1, 6, none⟩ = false := pR.free 6
  have co7 : V.cell? ⟨w.heap.size + 1 + 1, 7, none⟩ = some (.int .i64 P.f2.f2.f1) := pO.at rfl
  have cr7 : V.cell? ⟨w.heap.size + 1, 7, none⟩ = some (.int .i64 0) := pR.at rfl
  have fr7 : V.frozen? ⟨w.heap.size + 1, 7, none⟩ = false := pR.free 7
  have co8 : V.cell? ⟨w.heap.size + 1 + 1, 8, none⟩ = some (.int .i64 P.f2.f2.f2) := pO.at rfl
  have cr8 : V.cell? ⟨w.heap.size + 1, 8, none⟩ = some (.int .i64 0) := pR.at rfl
  have fr8 : V.frozen? ⟨w.heap.size + 1, 8, none⟩ = false := pR.free 8
  go_wp2
  have qF := (((((((((pR.set 0 (.int .i64 P.f0.f0)).set 1 (.int .i64 P.f0.f1)).set 2 (.int .i64 P.f0.f2)).set 3 (.int .i64 P.f1)).set 4 (.int .i64 P.f2.f0)).set 5 (.slice a5 P.f2.f1.length e5)).set 6 (.int .i64 P.f2.f2.f0)).set 7 (.int .i64 P.f2.f2.f1)).set 8 (.int .i64 P.f2.f2.f2))
  have g0 := qF.at (x := 0) rfl
  have g1 := qF.at (x := 1) rfl
  have g2 := qF.at (x := 2) rfl
  have g3 := qF.at (x := 3) rfl
  have g4 := qF.at (x := 4) rfl
  have g5 := qF.at (x := 5) rfl
  have g6 := qF.at (x := 6) rfl
  have g7 := qF.at (x := 7) rfl
  have g8 := qF.at (x := 8) rfl
  refine bodyPost_ret (v := (Value.agg #[.int .i64 P.f0.f0, .int .i64 P.f0.f1, .int .i64 P.f0.f2, .int .i64 P.f1, .int .i64 P.f2.f0, .slice a5 P.f2.f1.length e5, .int .i64 P.f2.f2.f0, .int .i64 P.f2.f2.f1, .int .i64 P.f2.f2.f2])) (by simp [results, Try.results83, go_sem, g0, g1, g2, g3, g4, g5, g6, g7, g8]) rfl ⟨a5, e5, rfl, (OwnD.more (OwnD.zone ho5 (lo' := 0) (hi' := w.heap.size + 3) (by (iterate 9 (refine Zone.setCell ?_ ⟨by omega, by omega⟩ _)); exact Zone.refl _ _ _) (Or.inr (by omega))) (by omega) (by simp only [gsize_set]; omega)), ?_⟩
  iterate 9 (refine Below.setCell ?_ (by dsimp only; omega) _)
  exact hBV

set_option maxHeartbeats 1600000 in
set_option maxRecDepth 100000 in
theorem gsz_Version {lo hi : Nat} {w : World} (P : TVersion) {A5 : Option Addr} {c5 : Nat} (h5 : Lies lo hi w (ints P.f2.f1) (.slice A5 P.f2.f1.length c5)) (hh : hi ≤ w.heap.size) (l : Int) (hl : 0 ≤ l) (hl' : l ≤ 1048576) :
    Calls Try.prog 82 #[(Value.agg #[.int .i64 P.f0.f0, .int .i64 P.f0.f1, .int .i64 P.f0.f2, .int .i64 P.f1, .int .i64 P.f2.f0, .slice A5 P.f2.f1.length c5, .int .i64 P.f2.f2.f0, .int .i64 P.f2.f2.f1, .int .i64 P.f2.f2.f2]), .int .i64 l] w fun e w' => e = .returned (.int .i64 (left l (room (ints P.f2.f1)))) ∧ Below w.heap.size w w' := by
  obtain ⟨O1, hO1⟩ : ∃ O, O = Obj.cells #[Value.int .i64 P.f0.f0, .int .i64 P.f0.f1, .int .i64 P.f0.f2, .int .i64 P.f1, .int .i64 P.f2.f0, .slice A5 P.f2.f1.length c5, .int .i64 P.f2.f2.f0, .int .i64 P.f2.f2.f1, .int .i64 P.f2.f2.f2] 121 (0, 0) := ⟨_, rfl⟩
  have hB : Below w.heap.size w (w.alloc O1) := by repeat' (first | exact Below.refl _ _ | assumption | refine Below.setCell ?_ ?_ _ | refine Below.alloc ?_ ?_ _ | refine Gen.gbelow_drewN ?_ _ | refine Below.drew ?_ | exact Nat.le_refl _ | omega | (dsimp only; omega) | refine Gen.gle_alloc ?_ | refine Gen.gle_set ?_ | refine Gen.gle_drewN ?_ | refine Gen.gle_drew ?_)
  have qA : Blk 121 w.heap.size [Value.int .i64 P.f0.f0, .int .i64 P.f0.f1, .int .i64 P.f0.f2, .int .i64 P.f1, .int .i64 P.f2.f0, .slice A5 P.f2.f1.length c5, .int .i64 P.f2.f2.f0, .int .i64 P.f2.f2.f1, .int .i64 P.f2.f2.f2] (w.alloc O1) := by rw [hO1]; exact Blk.new _ _ w
  subst hO1
  obtain ⟨T, hT⟩ : ∃ T, left l (room (ints P.f2.f1)) = T := ⟨_, rfl⟩
  rw [hT]
  have HT := Lib.hid hT
  clear hT
  go_enter Try.func82, Try.ntmps82
  go_wp2_with fail
  go_at_call 20
  refine Calls.mono (gsz_Resource (lo := lo) (hi := hi) P.f2 (h5.under (B := w.heap.size) hB hh) (Nat.le_trans hh hB.size) l hl hl') ?_
  rintro e w1 ⟨rfl, hb⟩
  have qA := qA.below hb
  have hB := hB.trans (hb.mono hB.size)
  clear hb
  have ca0 : w1.cell? ⟨w.heap.size, 0, none⟩ = some (.int .i64 P.f0.f0) := qA.at rfl
  have ca1 : w1.cell? ⟨w.heap.size, 1, none⟩ = some (.int .i64 P.f0.f1) := qA.at rfl
  have ca2 : w1.cell? ⟨w.heap.size, 2, none⟩ = some (.int .i64 P.f0.f2) := qA.at rfl
  have ca3 : w1.cell? ⟨w.heap.size, 3, none⟩ = some (.int .i64 P.f1) := qA.at rfl
  have ca4 : w1.cell? ⟨w.heap.size, 4, none⟩ = some (.int .i64 P.f2.f0) := qA.at rfl
  have ca5 : w1.cell? ⟨w.heap.size, 5, none⟩ = some (.slice A5 P.f2.f1.length c5) := qA.at rfl
  have ca6 : w1.cell? ⟨w.heap.size, 6, none⟩ = some (.int .i64 P.f2.f2.f0) := qA.at rfl
  have ca7 : w1.cell? ⟨w.heap.size, 7, none⟩ = some (.int .i64 P.f2.f2.f1) := qA.at rfl
  have ca8 : w1.cell? ⟨w.heap.size, 8, none⟩ = some (.int .i64 P.f2.f2.f2) := qA.at rfl
  have hc1 := left_cases l (room (ints P.f2.f1)) hl
  obtain ⟨r1, hq1⟩ : ∃ r, left l (room (ints P.f2.f1)) = r := ⟨_, rfl⟩
  rw [hq1] at hc1 ⊢
  rcases hc1 with ⟨rfl, hs1⟩ | ⟨he1, hr1⟩
  · have hT : T = -1 := by rw [← HT.out]; exact left_none (by omega)
    go_wp2
    go_ret
    exact ⟨by first | (rw [hT]; rfl) | rfl, hB⟩
  have hd1 : decide (r1 < 0) = false := by simp; omega
  have hr1' : r1 ≤ 1048576 := by omega
  have HE1 := Lib.hid he1
  clear he1 hq1
  have hT : T = r1 := by have := HE1.out; rw [← HT.out, left_some (by omega)]; omega
  go_wp2
  go_ret
  exact ⟨by first | (rw [hT]; rfl) | rfl, hB⟩

set_option maxHeartbeats 1600000 in
set_option maxRecDepth 100000 in
theorem geq_Version {x1 y1 x2 y2 : Nat} {w : World} (P : TVersion) {A5 : Option Addr} {c5 : Nat} {B5 : Option Addr} {d5 : Nat} (h5 : Lies x1 y1 w (ints P.f2.f1) (.slice A5 P.f2.f1.length c5)) (k5 : Lies x2 y2 w (ints P.f2.f1) (.slice B5 P.f2.f1.length d5)) (s1 : y1 ≤ w.heap.size) (s2 : y2 ≤ w.heap.size) :
    Calls Try.prog 84 #[(Value.agg #[.int .i64 P.f0.f0, .int .i64 P.f0.f1, .int .i64 P.f0.f2, .int .i64 P.f1, .int .i64 P.f2.f0, .slice A5 P.f2.f1.length c5, .int .i64 P.f2.f2.f0, .int .i64 P.f2.f2.f1, .int .i64 P.f2.f2.f2]), (Value.agg #[.int .i64 P.f0.f0, .int .i64 P.f0.f1, .int .i64 P.f0.f2, .int .i64 P.f1, .int .i64 P.f2.f0, .slice B5 P.f2.f1.length d5, .int .i64 P.f2.f2.f0, .int .i64 P.f2.f2.f1, .int .i64 P.f2.f2.f2])] w fun e w' => e = .returned (.bool true) ∧ Below w.heap.size w w' := by
  obtain ⟨O1, hO1⟩ : ∃ O, O = Obj.cells #[Value.int .i64 P.f0.f0, .int .i64 P.f0.f1, .int .i64 P.f0.f2, .int .i64 P.f1, .int .i64 P.f2.f0, .slice A5 P.f2.f1.length c5, .int .i64 P.f2.f2.f0, .int .i64 P.f2.f2.f1, .int .i64 P.f2.f2.f2] 103 (0, 0) := ⟨_, rfl⟩
  obtain ⟨O2, hO2⟩ : ∃ O, O = Obj.cells #[Value.int .i64 P.f0.f0, .int .i64 P.f0.f1, .int .i64 P.f0.f2, .int .i64 P.f1, .int .i64 P.f2.f0, .slice B5 P.f2.f1.length d5, .int .i64 P.f2.f2.f0, .int .i64 P.f2.f2.f1, .int .i64 P.f2.f2.f2] 103 (0, 0) := ⟨_, rfl⟩
  have hB : Below w.heap.size w ((w.alloc O1).alloc O2) := by repeat' (first | exact Below.refl _ _ | assumption | refine Below.setCell ?_ ?_ _ | refine Below.alloc ?_ ?_ _ | refine Gen.gbelow_drewN ?_ _ | refine Below.drew ?_ | exact Nat.le_refl _ | omega | (dsimp only; omega) | refine Gen.gle_alloc ?_ | refine Gen.gle_set ?_ | refine Gen.gle_drewN ?_ | refine Gen.gle_drew ?_)
  have qA : Blk 103 w.heap.size [Value.int .i64 P.f0.f0, .int .i64 P.f0.f1, .int .i64 P.f0.f2, .int .i64 P.f1, .int .i64 P.f2.f0, .slice A5 P.f2.f1.length c5, .int .i64 P.f2.f2.f0, .int .i64 P.f2.f2.f1, .int .i64 P.f2.f2.f2] ((w.alloc O1).alloc O2) := by rw [hO1]; exact (Blk.new _ _ w).alloc _
  have qB : Blk 103 (w.heap.size + 1) [Value.int .i64 P.f0.f0, .int .i64 P.f0.f1, .int .i64 P.f0.f2, .int .i64 P.f1, .int .i64 P.f2.f0, .slice B5 P.f2.f1.length d5, .int .i64 P.f2.f2.f0, .int .i64 P.f2.f2.f1, .int .i64 P.f2.f2.f2] ((w.alloc O1).alloc O2) := by have := Blk.new 103 [Value.int .i64 P.f0.f0, .int .i64 P.f0.f1, .int .i64 P.f0.f2, .int .i64 P.f1, .int .i64 P.f2.f0, .slice B5 P.f2.f1.length d5, .int .i64 P.f2.f2.f0, .int .i64 P.f2.f2.f1, .int .i64 P.f2.f2.f2] (w.alloc O1); rw [gsize_alloc] at this; rw [hO2]; exact this
  subst hO1 hO2
  have ca0 : ((w.alloc (.cells #[Value.int .i64 P.f0.f0, .int .i64 P.f0.f1, .int .i64 P.f0.f2, .int .i64 P.f1, .int .i64 P.f2.f0, .slice A5 P.f2.f1.length c5, .int .i64 P.f2.f2.f0, .int .i64 P.f2.f2.f1, .int .i64 P.f2.f2.f2] 103)).alloc (.cells #[Value.int .i64 P.f0.f0, .int .i64 P.f0.f1, .int .i64 P.f0.f2, .int .i64 P.f1, .int .i64 P.f2.f0, .slice B5 P.f2.f1.length d5, .int .i64 P.f2.f2.f0, .int .i64 P.f2.f2.f1, .int .i64 P.f2.f2.f2] 103)).cell? ⟨w.heap.size, 0, none⟩ = some (.int .i64 P.f0.f0) := qA.at rfl
  have cb0 : ((w.alloc (.cells #[Value.int .i64 P.f0.f0, .int .i64 P.f0.f1, .int .i64 P.f0.f2, .int .i64 P.f1, .int .i64 P.f2.f0, .slice A5 P.f2.f1.length c5, .int .i64 P.f2.f2.f0, .int .i64 P.f2.f2.f1, .int .i64 P.f2.f2.f2] 103)).alloc (.cells #[Value.int .i64 P.f0.f0, .int .i64 P.f0.f1, .int .i64 P.f0.f2, .int .i64 P.f1, .int .i64 P.f2.f0, .slice B5 P.f2.f1.length d5, .int .i64 P.f2.f2.f0, .int .i64 P.f2.f2.f1, .int .i64 P.f2.f2.f2] 103)).cell? ⟨w.heap.size + 1, 0, none⟩ = some (.int .i64 P.f0.f0) := qB.at rfl
  have ca1 : ((w.alloc (.cells #[Value.int .i64 P.f0.f0, .int .i64 P.f0.f1, .int .i64 P.f0.f2, .int .i64 P.f1, .int .i64 P.f2.f0, .slice A5 P.f2.f1.length c5, .int .i64 P.f2.f2.f0, .int .i64 P.f2.f2.f1, .int .i64 P.f2.f2.f2] 103)).alloc (.cells #[Value.int .i64 P.f0.f0, .int .i64 P.f0.f1, .int .i64 P.f0.f2, .int .i64 P.f1, .int .i64 P.f2.f0, .slice B5 P.f2.f1.length d5, .int .i64 P.f2.f2.f0, .int .i64 P.f2.f2.f1, .int .i64 P.f2.f2.f2] 103)).cell? ⟨w.heap.size, 1, none⟩ = some (.int .i64 P.f0.f1) := qA.at rfl
  have cb1 : ((w.alloc (.cells #[Value.int .i64 P.f0.f0, .int .i64 P.f0.f1, .int .i64 P.f0.f2, .int .i64 P.f1, .int .i64 P.f2.f0, .slice A5 P.f2.f1.length c5, .int .i64 P.f2.f2.f0, .int .i64 P.f2.f2.f1, .int .i64 P.f2.f2.f2] 103)).alloc (.cells #[Value.int .i64 P.f0.f0, .int .i64 P.f0.f1, .int .i64 P.f0.f2, .int .i64 P.f1, .int .i64 P.f2.f0, .slice B5 P.f2.f1.length d5, .int .i64 P.f2.f2.f0, .int .i64 P.f2.f2.f1, .int .i64 P.f2.f2.f2] 103)).cell? ⟨w.heap.size + 1, 1, none⟩ = some (.int .i64 P.f0.f1) := qB.at rfl
  have ca2 : ((w.alloc (.cells #[Value.int .i64 P.f0.f0, .int .i64 P.f0.f1, .int .i64 P.f0.f2, .int .i64 P.f1, .int .i64 P.f2.f0, .slice A5 P.f2.f1.length c5, .int .i64 P.f2.f2.f0, .int .i64 P.f2.f2.f1, .int .i64 P.f2.f2.f2] 103)).alloc (.cells #[Value.int .i64 P.f0.f0, .int .i64 P.f0.f1, .int .i64 P.f0.f2, .int .i64 P.f1, .int .i64 P.f2.f0, .slice B5 P.f2.f1.length d5, .int .i64 P.f2.f2.f0, .int .i64 P.f2.f2.f1, .int .i64 P.f2.f2.f2] 103)).cell? ⟨w.heap.size, 2, none⟩ = some (.int .i64 P.f0.f2) := qA.at rfl
  have cb2 : ((w.alloc (.cells #[Value.int .i64 P.f0.f0, .int .i64 P.f0.f1, .int .i64 P.f0.f2, .int .i64 P.f1, .int .i64 P.f2.f0, .slice A5 P.f2.f1.length c5, .int .i64 P.f2.f2.f0, .int .i64 P.f2.f2.f1, .int .i64 P.f2.f2.f2] 103)).alloc (.cells #[Value.int .i64 P.f0.f0, .int .i64 P.f0.f1, .int .i64 P.f0.f2, .int .i64 P.f1, .int .i64 P.f2.f0, .slice B5 P.f2.f1.length d5, .int .i64 P.f2.f2.f0, .int .i64 P.f2.f2.f1, .int .i64 P.f2.f2.f2] 103)).cell? ⟨w.heap.size + 1, 2, none⟩ = some (.int .i64 P.f0.f2) := qB.at rfl
  have ca3 : ((w.alloc (.cells #[Value.int .i64 P.f0.f0, .int .i64 P.f0.f1, .int .i64 P.f0.f2, .int .i64 P.f1, .int .i64 P.f2.f0, .slice A5 P.f2.f1.length c5, .int .i64 P.f2.f2.f0, .int .i64 P.f2.f2.f1, .int .i64 P.f2.f2.f2] 103)).alloc (.cells #[Value.int .i64 P.f0.f0, .int .i64 P.f0.f1, .int .i64 P.f0.f2, .int .i64 P.f1, .int .i64 P.f2.f0, .slice B5 P.f2.f1.length d5, .int .i64 P.f2.f2.f0, .int .i64 P.f2.f2.f1, .int .i64 P.f2.f2.f2] 103)).cell? ⟨w.heap.size, 3, none⟩ = some (.int .i64 P.f1) := qA.at rfl
  have cb3 : ((w.alloc (.cells #[Value.int .i64 P.f0.f0, .int .i64 P.f0.f1, .int .i64 P.f0.f2, .int .i64 P.f1, .int .i64 P.f2.f0, .slice A5 P.f2.f1.length c5, .int .i64 P.f2.f2.f0, .int .i64 P.f2.f2.f1, .int .i64 P.f2.f2.f2] 103)).alloc (.cells #[Value.int .i64 P.f0.f0, .int .i64 P.f0.f1, .int .i64 P.f0.f2, .int .i64 P.f1, .int .i64 P.f2.f0, .slice B5 P.f2.f1.length d5, .int .i64 P.f2.f2.f0, .int .i64 P.f2.f2.f1, .int .i64 P.f2.f2.f2] 103)).cell? ⟨w.heap.size + 1, 3, none⟩ = some (.int .i64 P.f1) := qB.at rfl
  have ca4 : ((w.alloc (.cells #[Value.int .i64 P.f0.f0, .int .i64 P.f0.f1, .int .i64 P.f0.f2, .int .i64 P.f1, .int .i64 P.f2.f0, .slice A5 P.f2.f1.length c5, .int .i64 P.f2.f2.f0, .int .i64 P.f2.f2.f1, .int .i64 P.f2.f2.f2] 103)).alloc (.cells #[Value.int .i64 P.f0.f0, .int .i64 P.f0.f1, .int .i64 P.f0.f2, .int .i64 P.f1, .int .i64 P.f2.f0, .slice B5 P.f2.f1.length d5, .int .i64 P.f2.f2.f0, .int .i64 P.f2.f2.f1, .int .i64 P.f2.f2.f2] 103)).cell? ⟨w.heap.size, 4, none⟩ = some (.int .i64 P.f2.f0) := qA.at rfl
  have cb4 : ((w.alloc (.cells #[Value.int .i64 P.f0.f0, .int .i64 P.f0.f1, .int .i64 P.f0.f2, .int .i64 P.f1, .int .i64 P.f2.f0, .slice A5 P.f2.f1.length c5, .int .i64 P.f2.f2.f0, .int .i64 P.f2.f2.f1, .int .i64 P.f2.f2.f2] 103)).alloc (.cells #[Value.int .i64 P.f0.f0, .int .i64 P.f0.f1, .int .i64 P.f0.f2, .int .i64 P.f1, .int .i64 P.f2.f0, .slice B5 P.f2.f1.length d5, .int .i64 P.f2.f2.f0, .int .i64 P.f2.f2.f1, .int .i64 P.f2.f2.f2] 103)).cell? ⟨w.heap.size + 1, 4, none⟩ = some (.int .i64 P.f2.f0) := qB.at rfl
  have ca5 : ((w.alloc (.cells #[Value.int .i64 P.f0.f0, .int .i64 P.f0.f1, .int .i64 P.f0.f2, .int .i64 P.f1, .int .i64 P.f2.f0, .slice A5 P.f2.f1.length c5, .int .i64 P.f2.f2.f0, .int .i64 P.f2.f2.f1, .int .i64 P.f2.f2.f2] 103)).alloc (.cells #[Value.int .i64 P.f0.f0, .int .i64 P.f0.f1, .int .i64 P.f0.f2, .int .i64 P.f1, .int .i64 P.f2.f0, .slice B5 P.f2.f1.length d5, .int .i64 P.f2.f2.f0, .int .i64 P.f2.f2.f1, .int .i64 P.f2.f2.f2] 103)).cell? ⟨w.heap.size, 5, none⟩ = some (.slice A5 P.f2.f1.length c5) := qA.at rfl
  have cb5 : ((w.alloc (.cells #[Value.int .i64 P.f0.f0, .int .i64 P.f0.f1, .int .i64 P.f0.f2, .int .i64 P.f1, .int .i64 P.f2.f0, .slice A5 P.f2.f1.length c5, .int .i64 P.f2.f2.f0, .int .i64 P.f2.f2.f1, .int .i64 P.f2.f2.f2] 103)).alloc (.cells #[Value.int .i64 P.f0.f0, .int .i64 P.f0.f1, .int .i64 P.f0.f2, .int .i64 P.f1, .int .i64 P.f2.f0, .slice B5 P.f2.f1.length d5, .int .i64 P.f2.f2.f0, .int .i64 P.f2.f2.f1, .int .i64 P.f2.f2.f2] 103)).cell? ⟨w.heap.size + 1, 5, none⟩ = some (.slice B5 P.f2.f1.length d5) := qB.at rfl
  have ca6 : ((w.alloc (.cells #[Value.int .i64 P.f0.f0, .int .i64 P.f0.f1, .int .i64 P.f0.f2, .int .i64 P.f1, .int .i64 P.f2.f0, .slice A5 P.f2.f1.length c5, .int .i64 P.f2.f2.f0, .int .i64 P.f2.f2.f1, .int .i64 P.f2.f2.f2] 103)).alloc (.cells #[Value.int .i64 P.f0.f0, .int .i64 P.f0.f1, .int .i64 P.f0.f2, .int .i64 P.f1, .int .i64 P.f2.f0, .slice B5 P.f2.f1.length d5, .int .i64 P.f2.f2.f0, .int .i64 P.f2.f2.f1, .int .i64 P.f2.f2.f2] 103)).cell? ⟨w.heap.size, 6, none⟩ = some (.int .i64 P.f2.f2.f0) := qA.at rfl
  have cb6 : ((w.alloc (.cells #[Value.int .i64 P.f0.f0, .int .i64 P.f0.f1, .int .i64 P.f0.f2, .int .i64 P.f1, .int .i64 P.f2.f0, .slice A5 P.f2.f1.length c5, .int .i64 P.f2.f2.f0, .int .i64 P.f2.f2.f1, .int .i64 P.f2.f2.f2] 103)).alloc (.cells #[Value.int .i64 P.f0.f0, .int .i64 P.f0.f1, .int .i64 P.f0.f2, .int .i64 P.f1, .int .i64 P.f2.f0, .slice B5 P.f2.f1.length d5, .int .i64 P.f2.f2.f0, .int .i64 P.f2.f2.f1, .int .i64 P.f2.f2.f2] 103)).cell? ⟨w.heap.size + 1, 6, none⟩ = some (.int .i64 P.f2.f2.f0) := qB.at rfl
  have ca7 : ((w.alloc (.cells #[Value.int .i64 P.f0.f0, .int .i64 P.f0.f1, .int .i64 P.f0.f2, .int .i64 P.f1, .int .i64 P.f2.f0, .slice A5 P.f2.f1.length c5, .int .i64 P.f2.f2.f0, .int .i64 P.f2.f2.f1, .int .i64 P.f2.f2.f2] 103)).alloc (.cells #[Value.int .i64 P.f0.f0, .int .i64 P.f0.f1, .int .i64 P.f0.f2, .int .i64 P.f1, .int .i64 P.f2.f0, .slice B5 P.f2.f1.length d5, .int .i64 P.f2.f2.f0, .int .i64 P.f2.f2.f1, .int .i64 P.f2.f2.f2] 103)).cell? ⟨w.heap.size, 7, none⟩ = some (.int .i64 P.f2.f2.f1) := qA.at rfl
  have cb7 : ((w.alloc (.cells #[Value.int .i64 P.f0.f0, .int .i64 P.f0.f1, .int .i64 P.f0.f2, .int .i64 P.f1, .int .i64 P.f2.f0, .slice A5 P.f2.f1.length c5, .int .i64 P.f2.f2.f0, .int .i64 P.f2.f2.f1, .int .i64 P.f2.f2.f2] 103)).alloc (.cells #[Value.int .i64 P.f0.f0, .int .i64 P.f0.f1, .int .i64 P.f0.f2, .int .i64 P.f1, .int .i64 P.f2.f0, .slice B5 P.f2.f1.length d5, .int .i64 P.f2.f2.f0, .int .i64 P.f2.f2.f1, .int .i64 P.f2.f2.f2] 103)).cell? ⟨w.heap.size + 1, 7, none⟩ = some (.int .i64 P.f2.f2.f1) := qB.at rfl
  have ca8 : ((w.alloc (.cells #[Value.int .i64 P.f0.f0, .int .i64 P.f0.f1, .int .i64 P.f0.f2, .int .i64 P.f1, .int .i64 P.f2.f0, .slice A5 P.f2.f1.length c5, .int .i64 P.f2.f2.f0, .int .i64 P.f2.f2.f1, .int .i64 P.f2.f2.f2] 103)).alloc (.cells #[Value.int .i64 P.f0.f0, .int .i64 P.f0.f1, .int .i64 P.f0.f2, .int .i64 P.f1, .int .i64 P.f2.f0, .slice B5 P.f2.f1.length d5, .int .i64 P.f2.f2.f0, .int .i64 P.f2.f2.f1, .int .i64 P.f2.f2.f2] 103)).cell? ⟨w.heap.size, 8, none⟩ = some (.int .i64 P.f2.f2.f2) := qA.at rfl
  have cb8 : ((w.alloc (.cells #[Value.int .i64 P.f0.f0, .int .i64 P.f0.f1, .int .i64 P.f0.f2, .int .i64 P.f1, .int .i64 P.f2.f0, .slice A5 P.f2.f1.length c5, .int .i64 P.f2.f2.f0, .int .i64 P.f2.f2.f1, .int .i64 P.f2.f2.f2] 103)).alloc (.cells #[Value.int .i64 P.f0.f0, .int .i64 P.f0.f1, .int .i64 P.f0.f2, .int .i64 P.f1, .int .i64 P.f2.f0, .slice B5 P.f2.f1.length d5, .int .i64 P.f2.f2.f0, .int .i64 P.f2.f2.f1, .int .i64 P.f2.f2.f2] 103)).cell? ⟨w.heap.size + 1, 8, none⟩ = some (.int .i64 P.f2.f2.f2) := qB.at rfl
  go_enter Try.func84, Try.ntmps84
  go_wp2_with fail
  go_at_call 58
  refine Calls.mono (geq_Address P.f0) ?_
  rintro e w1 ⟨rfl, hb⟩
  have qA := qA.below hb
  have qB := qB.below hb
  have hB := hB.trans (hb.mono hB.size)
  clear hb
  clear ca0 cb0 ca1 cb1 ca2 cb2 ca3 cb3 ca4 cb4 ca5 cb5 ca6 cb6 ca7 cb7 ca8 cb8
  have ca0 : w1.cell? ⟨w.heap.size, 0, none⟩ = some (.int .i64 P.f0.f0) := qA.at rfl
  have cb0 : w1.cell? ⟨w.heap.size + 1, 0, none⟩ = some (.int .i64 P.f0.f0) := qB.at rfl
  have ca1 : w1.cell? ⟨w.heap.size, 1, none⟩ = some (.int .i64 P.f0.f1) := qA.at rfl
  have cb1 : w1.cell? ⟨w.heap.size + 1, 1, none⟩ = some (.int .i64 P.f0.f1) := qB.at rfl
  have ca2 : w1.cell? ⟨w.heap.size, 2, none⟩ = some (.int .i64 P.f0.f2) := qA.at rfl
  have cb2 : w1.cell? ⟨w.heap.size + 1, 2, none⟩ = some (.int .i64 P.f0.f2) := qB.at rfl
  have ca3 : w1.cell? ⟨w.heap.size, 3, none⟩ = some (.int .i64 P.f1) := qA.at rfl
  have cb3 : w1.cell? ⟨w.heap.size + 1, 3, none⟩ = some (.int .i64 P.f1) := qB.at rfl
  have ca4 : w1.cell? ⟨w.heap.size, 4, none⟩ = some (.int .i64 P.f2.f0) := qA.at rfl
  have cb4 : w1.cell? ⟨w.heap.size + 1, 4, none⟩ = some (.int .i64 P.f2.f0) := qB.at rfl
  have ca5 : w1.cell? ⟨w.heap.size, 5, none⟩ = some (.slice A5 P.f2.f1.length c5) := qA.at rfl
  have cb5 : w1.cell? ⟨w.heap.size + 1, 5, none⟩ = some (.slice B5 P.f2.f1.length d5) := qB.at rfl
  have ca6 : w1.cell? ⟨w.heap.size, 6, none⟩ = some (.int .i64 P.f2.f2.f0) := qA.at rfl
  have cb6 : w1.cell? ⟨w.heap.size + 1, 6, none⟩ = some (.int .i64 P.f2.f2.f0) := qB.at rfl
  have ca7 : w1.cell? ⟨w.heap.size, 7, none⟩ = some (.int .i64 P.f2.f2.f1) := qA.at rfl
  have cb7 : w1.cell? ⟨w.heap.size + 1, 7, none⟩ = some (.int .i64 P.f2.f2.f1) := qB.at rfl
  have ca8 : w1.cell? ⟨w.heap.size, 8, none⟩ = some (.int .i64 P.f2.f2.f2) := qA.at rfl
  have cb8 : w1.cell? ⟨w.heap.size + 1, 8, none⟩ = some (.int .i64 P.f2.f2.f2) := qB.at rfl
  go_wp2_with fail
  go_at_call 23
  refine Calls.mono (geq_Resource (x1 := x1) (y1 := y1) (x2 := x2) (y2 := y2) P.f2 (h5.under (B := w.heap.size) hB s1) (k5.under (B := w.heap.size) hB s2) (Nat.le_trans s1 hB.size) (Nat.le_trans s2 hB.size)) ?_
  rintro e w2 ⟨rfl, hb⟩
  have qA := qA.below hb
  have qB := qB.below hb
  have hB := hB.trans (hb.mono hB.size)
  clear hb
  clear ca0 cb0 ca1 cb1 ca2 cb2 ca3 cb3 ca4 cb4 ca5 cb5 ca6 cb6 ca7 cb7 ca8 cb8
  have ca0 : w2.cell? ⟨w.heap.size, 0, none⟩ = some (.int .i64 P.f0.f0) := qA.at rfl
  have cb0 : w2.cell? ⟨w.heap.size + 1, 0, none⟩ = some (.int .i64 P.f0.f0) := qB.at rfl
  have ca1 : w2.cell? ⟨w.heap.size, 1, none⟩ = some (.int .i64 P.f0.f1) := qA.at rfl
  have cb1 : w2.cell? ⟨w.heap.size + 1, 1, none⟩ = some (.int .i64 P.f0.f1) := qB.at rfl
  have ca2 : w2.cell? ⟨w.heap.size, 2, none⟩ = some (.int .i64 P.f0.f2) := qA.at rfl
  have cb2 : w2.cell? ⟨w.heap.size + 1, 2, none⟩ = some (.int .i64 P.f0.f2) := qB.at rfl
  have ca3 : w2.cell? ⟨w.heap.size, 3, none⟩ = some (.int .i64 P.f1) := qA.at rfl
  have cb3 : w2.cell? ⟨w.heap.size + 1, 3, none⟩ = some (.int .i64 P.f1) := qB.at rfl
  have ca4 : w2.cell? ⟨w.heap.size, 4, none⟩ = some (.int .i64 P.f2.f0) := qA.at rfl
  have cb4 : w2.cell? ⟨w.heap.size + 1, 4, none⟩ = some (.int .i64 P.f2.f0) := qB.at rfl
  have ca5 : w2.cell? ⟨w.heap.size, 5, none⟩ = some (.slice A5 P.f2.f1.length c5) := qA.at rfl
  have cb5 : w2.cell? ⟨w.heap.size + 1, 5, none⟩ = some (.slice B5 P.f2.f1.length d5) := qB.at rfl
  have ca6 : w2.cell? ⟨w.heap.size, 6, none⟩ = some (.int .i64 P.f2.f2.f0) := qA.at rfl
  have cb6 : w2.cell? ⟨w.heap.size + 1, 6, none⟩ = some (.int .i64 P.f2.f2.f0) := qB.at rfl
  have ca7 : w2.cell? ⟨w.heap.size, 7, none⟩ = some (.int .i64 P.f2.f2.f1) := qA.at rfl
  have cb7 : w2.cell? ⟨w.heap.size + 1, 7, none⟩ = some (.int .i64 P.f2.f2.f1) := qB.at rfl
  have ca8 : w2.cell? ⟨w.heap.size, 8, none⟩ = some (.int .i64 P.f2.f2.f2) := qA.at rfl
  have cb8 : w2.cell? ⟨w.heap.size + 1, 8, none⟩ = some (.int .i64 P.f2.f2.f2) := qB.at rfl
  go_wp2
  go_ret
  exact ⟨rfl, hB⟩

theorem infoVersion : (Try.prog.info? 103).map (fun i => (i.zero, i.size, i.bytes)) = some (some (.agg #[.int .i64 0, .int .i64 0, .int .i64 0, .int .i64 0, .int .i64 0, .slice none 0 0, .int .i64 0, .int .i64 0, .int .i64 0]), 9, 88) := by kernel_rfl
theorem putL_Version (w : World) (b o : Nat) (a0 a1 a2 a3 a4 a5 a6 a7 a8 : Value) : putL w b o [a0, a1, a2, a3, a4, a5, a6, a7, a8] = ((((((((w.setCell ⟨b, o, none⟩ a0).setCell ⟨b, o + 1, none⟩ a1).setCell ⟨b, o + 2, none⟩ a2).setCell ⟨b, o + 3, none⟩ a3).setCell ⟨b, o + 4, none⟩ a4).setCell ⟨b, o + 5, none⟩ a5).setCell ⟨b, o + 6, none⟩ a6).setCell ⟨b, o + 7, none⟩ a7).setCell ⟨b, o + 8, none⟩ a8 := rfl
theorem ctb_VersionS (l : List TVersion) : ct (dVersion l) ≤ 64 * room (dVersion l) := by
  refine ct_le_room (by omega) fun i _ => ?_
  have h1 := ct_Version (l.getD i nVersion)
  have h2 := room_Version (l.getD i nVersion)
  have h3_5 := ctb_ints (l.getD i nVersion).f2.f1
  show sumTo (fun x => ct ((l.getD i nVersion).c x)) 9 ≤ 9 + 64 * sumTo (fun x => room ((l.getD i nVersion).c x)) 9
  omega
set_option maxHeartbeats 1600000 in
set_option maxRecDepth 100000 in
theorem gto_VersionS {lo hi : Nat} {w : World} {l : List TVersion} {v : Value} (h : Lies lo hi w (dVersion l) v) (hh : hi ≤ w.heap.size) (hm : room (dVersion l) ≤ 1073741824) :
    Calls Try.prog 51 #[v] w (Given w.heap.size (dVersion l) w) := by
  obtain ⟨A, c, rfl⟩ := lies_Version h
  obtain ⟨i0, hi0, hz0, hz1, hz2⟩ := info_parts infoVersion
  obtain ⟨n, hn⟩ : ∃ n, l.length = n := ⟨_, rfl⟩
  have hrm : ∀ j, j < n → sumTo (fun x => room ((l.getD j nVersion).c x)) 9 ≤ 1073741824 := fun j hj => Nat.le_trans (room_at (f := fun i => (l.getD i nVersion).c) (by rw [hn]; exact hj)) hm
  have hnm : n ≤ 1073741824 := by
    have : room (dVersion l) = l.length + _ := rfl
    omega
  have hd : dVersion l = .row 9 n (fun i => (l.getD i nVersion).c) := by unfold dVersion; rw [hn]
  rw [hn] at h ⊢
  have HD := Lib.hid hd
  have HM := Lib.hid hrm
  clear hm hd hn hrm
  go_enter Try.func51, Try.ntmps51
  go_wp2_with (refine wpList_make_full _ rfl _ _ 24 rfl w.heap.size 103 i0 (.agg #[.int .i64 0, .int .i64 0, .int .i64 0, .int .i64 0, .int .i64 0, .slice none 0 0, .int .i64 0, .int .i64 0, .int .i64 0]) 9 Try.underlying24 hi0 hz0 hz1 _ _ _ _ n rfl rfl rfl rfl ?c1 ?c2 ?c3 ?_; (case c1 => rw [hz2]; omega); (case c2 => unfold maxLen; omega); (case c3 => exact Nat.le_refl _); intro w1 hown hgr)
  have hb1 : Below w.heap.size w w1 := (Below.refl _ _).grown hgr (Nat.le_refl _) (fun _ h => by cases h)
  have hf1 : Fill w.heap.size n 9 (fun i => (l.getD i nVersion).c) 0 w1 := Fill.start hown
  clear hown hgr
  go_loopw [4] (fun i wr => ∃ j : Nat, j ≤ n ∧ i = .int .i64 j ∧ Fill w.heap.size n 9 (fun i => (l.getD i nVersion).c) j wr ∧ Below w.heap.size w wr) (fun i _ => n - (intOf i).toNat)
  case atStart => exact ⟨0, Nat.zero_le _, rfl, hf1, hb1⟩
  case round =>
    obtain ⟨j, hj, rfl, hf, hb⟩ := hrel
    clear hf1 hb1
    by_cases hlt : j < n
    · have hbs := hb.size
      obtain ⟨b, off, A5, c5, rfl, _, _, hc, q5, hw⟩ := at_Version (h.under hb hh) hlt
      have hrj := HM.out j hlt
      rw [room_Version] at hrj
      obtain ⟨P, hP⟩ : ∃ P, l.getD j nVersion = P := ⟨_, rfl⟩
      have hDj : (fun i => (l.getD i nVersion).c) j = P.c := by show (l.getD j nVersion).c = _; rw [hP]
      rw [hP] at hc q5 hw hrj
      have HDj := Lib.hid hDj
      clear hP hDj
      have z0 := hc.c0
      have z1 := hc.c1
      have z2 := hc.c2
      have z3 := hc.c3
      have z4 := hc.c4
      have z5 := hc.c5'
      have z6 := hc.c6
      have z7 := hc.c7
      have z8 := hc.c8
      clear hc
      go_wp2_with fail
      go_at_call 83
      refine Calls.mono (gto_Version (lo := lo) (hi := hi) P q5 (Nat.le_trans hh hbs) (by omega)) ?_
      rintro e w2 ⟨a5, e5, rfl, ho5, hb2⟩
      have hbz := hb2.size
      have hFr : Fresh wr.heap.size w2.heap.size 9 (fun x => match x with | 5 => Span (wr.heap.size) (w2.heap.size) | _ => fun _ => False) (fun x => P.c x) [Value.int .i64 P.f0.f0, .int .i64 P.f0.f1, .int .i64 P.f0.f2, .int .i64 P.f1, .int .i64 P.f2.f0, .slice a5 P.f2.f1.length e5, .int .i64 P.f2.f2.f0, .int .i64 P.f2.f2.f1, .int .i64 P.f2.f2.f2] w2 := by
        refine ⟨rfl, fun x t hx hg => ?_, fun x y t hx hy hg hg' => ?_, fun x hx => ?_⟩
        · have hx' : x = 0 ∨ x = 1 ∨ x = 2 ∨ x = 3 ∨ x = 4 ∨ x = 5 ∨ x = 6 ∨ x = 7 ∨ x = 8 := by omega
          rcases hx' with rfl | rfl | rfl | rfl | rfl | rfl | rfl | rfl | rfl
          · exact hg.elim
          · exact hg.elim
          · exact hg.elim
          · exact hg.elim
          · exact hg.elim
          · (obtain ⟨u1, u2⟩ := hg; omega)
          · exact hg.elim
          · exact hg.elim
          · exact hg.elim
        · have hx' : x = 0 ∨ x = 1 ∨ x = 2 ∨ x = 3 ∨ x = 4 ∨ x = 5 ∨ x = 6 ∨ x = 7 ∨ x = 8 := by omega
          rcases hx' with rfl | rfl | rfl | rfl | rfl | rfl | rfl | rfl | rfl
          · exact hg.elim
          · exact hg.elim
          · exact hg.elim
          · exact hg.elim
          · exact hg.elim
          · have hy' : y = 0 ∨ y = 1 ∨ y = 2 ∨ y = 3 ∨ y = 4 ∨ y = 5 ∨ y = 6 ∨ y = 7 ∨ y = 8 := by omega
            rcases hy' with rfl | rfl | rfl | rfl | rfl | rfl | rfl | rfl | rfl
            · exact hg'.elim
            · exact hg'.elim
            · exact hg'.elim
            · exact hg'.elim
            · exact hg'.elim
            · rfl
            · exact hg'.elim
            · exact hg'.elim
            · exact hg'.elim
          · exact hg.elim
          · exact hg.elim
          · exact hg.elim
        · have hx' : x = 0 ∨ x = 1 ∨ x = 2 ∨ x = 3 ∨ x = 4 ∨ x = 5 ∨ x = 6 ∨ x = 7 ∨ x = 8 := by omega
          rcases hx' with rfl | rfl | rfl | rfl | rfl | rfl | rfl | rfl | rfl
          · exact ⟨_, rfl, rfl, hw.1⟩
          · exact ⟨_, rfl, rfl, hw.2.1⟩
          · exact ⟨_, rfl, rfl, hw.2.2.1⟩
          · exact ⟨_, rfl, rfl, hw.2.2.2.1⟩
          · exact ⟨_, rfl, rfl, hw.2.2.2.2.1⟩
          · exact ⟨_, rfl, ho5⟩
          · exact ⟨_, rfl, rfl, hw.2.2.2.2.2.1⟩
          · exact ⟨_, rfl, rfl, hw.2.2.2.2.2.2.1⟩
          · exact ⟨_, rfl, rfl, hw.2.2.2.2.2.2.2.1⟩
      have hf3 := hf.next hb2 hlt (by rw [HDj.out]; exact hFr)
      have hf2 := hf.below hb2
      have hb3 := hb.trans (hb2.mono hbs)
      have hp3 := putL_below (Nat.le_refl _) [Value.int .i64 P.f0.f0, .int .i64 P.f0.f1, .int .i64 P.f0.f2, .int .i64 P.f1, .int .i64 P.f2.f0, .slice a5 P.f2.f1.length e5, .int .i64 P.f2.f2.f0, .int .i64 P.f2.f2.f1, .int .i64 P.f2.f2.f2] _ (j * 9) hb3
      rw [putL_Version] at hf3 hp3
      clear hf hFr hw ho5 q5 hrj
      clear z0 z1 z2 z3 z4 z5 z6 z7 z8
      obtain ⟨⟨v0, d0⟩, f0⟩ := hf2.rest (j * 9) (by omega)
      obtain ⟨⟨v1, d1⟩, f1⟩ := hf2.rest (j * 9 + 1) (by omega)
      obtain ⟨⟨v2, d2⟩, f2⟩ := hf2.rest (j * 9 + 2) (by omega)
      obtain ⟨⟨v3, d3⟩, f3⟩ := hf2.rest (j * 9 + 3) (by omega)
      obtain ⟨⟨v4, d4⟩, f4⟩ := hf2.rest (j * 9 + 4) (by omega)
      obtain ⟨⟨v5, d5⟩, f5⟩ := hf2.rest (j * 9 + 5) (by omega)
      obtain ⟨⟨v6, d6⟩, f6⟩ := hf2.rest (j * 9 + 6) (by omega)
      obtain ⟨⟨v7, d7⟩, f7⟩ := hf2.rest (j * 9 + 7) (by omega)
      obtain ⟨⟨v8, d8⟩, f8⟩ := hf2.rest (j * 9 + 8) (by omega)
      go_wp2
      go_roundw
      case rel => exact ⟨j + 1, by omega, by go_num, hf3, hp3⟩
      case measure => simp [intOf]; omega
    · have hd : decide ((j : Int) < (n : Int)) = false := by simp; omega
      have HE := Lib.hid (show j = n by omega)
      go_wp2
      go_ret
      have h1 := hf
      rw [HE.out] at h1
      exact ⟨_, rfl, by rw [HD.out]; exact h1.own (by unfold maxLen; omega), hb⟩
set_option maxHeartbeats 1600000 in
set_option maxRecDepth 100000 in
theorem gsz_VersionS {lo hi : Nat} {w : World} {l : List TVersion} {v : Value} (h : Lies lo hi w (dVersion l) v) (hh : hi ≤ w.heap.size) (q : Int) (hl : 0 ≤ q) (hl' : q ≤ 1048576) :
    Calls Try.prog 49 #[v, .int .i64 q] w fun e w' => e = .returned (.int .i64 (left q (room (dVersion l)))) ∧ Below w.heap.size w w' := by
  obtain ⟨A, c, rfl⟩ := lies_Version h
  obtain ⟨hnc, hcm⟩ : l.length ≤ c ∧ c ≤ maxLen := by obtain ⟨_, _, e, h1, h2, _⟩ := h; injection e with e1 e2 e3; subst e3; exact ⟨h1, h2⟩
  unfold maxLen at hcm
  obtain ⟨g, hg⟩ : ∃ g : Nat → Nat, g = fun i => sumTo (fun x => room ((l.getD i nVersion).c x)) 9 := ⟨_, rfl⟩
  have hroom : room (dVersion l) = l.length + sumTo g l.length := by rw [hg]; rfl
  have hgz : ∀ i, g i = sumTo (fun x => room ((l.getD i nVersion).c x)) 9 := fun i => by rw [hg]
  obtain ⟨n, hn⟩ : ∃ n, l.length = n := ⟨_, rfl⟩
  rw [hn] at hroom hnc ⊢
  rw [hn] at h
  obtain ⟨T, hT⟩ : ∃ T, left q (room (dVersion l)) = T := ⟨_, rfl⟩
  rw [hT]
  rw [hroom] at hT
  have HT := Lib.hid hT
  have HG := Lib.hid hgz
  have e1 : IntKind.wrap .i64 (q - n) = q - n := by rw [IntKind.wrap_i64]; omega
  clear hT hroom hg hn hgz
  by_cases h0 : (n : Int) ≤ q
  rotate_left
  · have d : decide (q - (n : Int) < 0) = true := by simp; omega
    have hT : T = -1 := by rw [← HT.out]; exact left_none (by omega)
    go_enter Try.func49, Try.ntmps49
    go_wp2
    go_ret
    exact ⟨by first | (rw [hT]; rfl) | rfl, Below.refl _ _⟩
  have d : decide (q - (n : Int) < 0) = false := by simp; omega
  go_enter Try.func49, Try.ntmps49
  go_wp2
  go_loopw [1, 5] (fun x i wr => ∃ (j : Nat) (r : Int), j ≤ n ∧ i = .int .i64 j ∧ x = .int .i64 r ∧ Hid (r = q - n - (sumTo g j : Int)) ∧ 0 ≤ r ∧ r ≤ 1048576 ∧ Below w.heap.size w wr) (fun _ i _ => n - (intOf i).toNat)
  case atStart => exact ⟨0, q - n, Nat.zero_le _, rfl, rfl, by simp [sumTo, Hid], by omega, by omega, by repeat' (first | exact Below.refl _ _ | assumption | refine Below.setCell ?_ ?_ _ | refine Below.alloc ?_ ?_ _ | refine Gen.gbelow_drewN ?_ _ | refine Below.drew ?_ | exact Nat.le_refl _ | omega | (dsimp only; omega) | refine Gen.gle_alloc ?_ | refine Gen.gle_set ?_ | refine Gen.gle_drewN ?_ | refine Gen.gle_drew ?_)⟩
  case round =>
    obtain ⟨j, r, hj, rfl, rfl, HQ, hr0, hr1, hb⟩ := hrel
    have hbs := hb.size
    by_cases hlt : j < n
    · have HK := Lib.hid (sumTo_le g (i := j + 1) (n := n) (by omega))
      obtain ⟨b, off, A5, c5, rfl, _, _, hc, q5, hw⟩ := at_Version (h.under hb hh) hlt
      have hgj := HG.out j
      rw [room_Version] at hgj
      obtain ⟨P, hP⟩ : ∃ P, l.getD j nVersion = P := ⟨_, rfl⟩
      rw [hP] at hc hgj q5
      have HJ := Lib.hid hgj
      have z0 := hc.c0
      have z1 := hc.c1
      have z2 := hc.c2
      have z3 := hc.c3
      have z4 := hc.c4
      have z5 := hc.c5'
      have z6 := hc.c6
      have z7 := hc.c7
      have z8 := hc.c8
      clear hc hgj hP hw
      go_wp2_with fail
      go_at_call 82
      refine Calls.mono (gsz_Version (lo := lo) (hi := hi) P q5 (Nat.le_trans hh hbs) r hr0 hr1) ?_
      rintro e w1 ⟨rfl, hb1⟩
      have hb2 := hb.trans (hb1.mono hbs)
      have hlc := left_cases r (room (ints P.f2.f1)) hr0
      obtain ⟨r2, hr2⟩ : ∃ y, left r (room (ints P.f2.f1)) = y := ⟨_, rfl⟩
      rw [hr2] at hlc ⊢
      have HC := Lib.hid hlc
      have hw : r2 = -1 ∨ (0 ≤ r2 ∧ r2 ≤ 1048576) := by omega
      clear hr2 hlc z0 z1 z2 z3 z4 z5 z6 z7 z8
      rcases hw with rfl | ⟨hw, hw'⟩
      · have hT : T = -1 := by
          rw [← HT.out]
          refine left_none ?_
          have h2 := HQ.out
          have h3 := HK.out
          have h4 := HJ.out
          simp only [sumTo] at h3
          rcases HC.out with ⟨_, h7⟩ | ⟨h7, h8⟩
          · omega
          · omega
        go_wp2
        go_ret
        exact ⟨by first | (rw [hT]; rfl) | rfl, hb2⟩
      · have hd : decide (r2 < 0) = false := by simp; omega
        go_wp2
        go_roundw
        case rel =>
          refine ⟨j + 1, r2, by omega, by go_num, rfl, ?_, hw, hw', hb2⟩
          have h2 := HQ.out
          have h4 := HJ.out
          show r2 = _
          simp only [sumTo]
          rcases HC.out with ⟨h7, _⟩ | ⟨h7, _⟩
          · omega
          · omega
        case measure => simp [intOf]; omega
    · have hd : decide ((j : Int) < (n : Int)) = false := by simp; omega
      have HE := Lib.hid (show j = n by omega)
      have hT : T = r := by
        have h2 := HQ.out
        rw [HE.out] at h2
        rw [← HT.out, left_some (by omega)]
        omega
      go_wp2
      go_ret
      exact ⟨by first | (rw [hT]; rfl) | rfl, hb⟩
set_option maxHeartbeats 1600000 in
set_option maxRecDepth 100000 in
theorem geq_VersionS {x1 y1 x2 y2 : Nat} {w : World} {l : List TVersion} {v v' : Value} (h : Lies x1 y1 w (dVersion l) v) (h' : Lies x2 y2 w (dVersion l) v') (s1 : y1 ≤ w.heap.size) (s2 : y2 ≤ w.heap.size) :
    Calls Try.prog 53 #[v, v'] w fun e w' => e = .returned (.bool true) ∧ Below w.heap.size w w' := by
  obtain ⟨A, c, rfl⟩ := lies_Version h
  obtain ⟨A', c', rfl⟩ := lies_Version h'
  have hcm : l.length ≤ maxLen := by obtain ⟨_, _, e, h1, h2, _⟩ := h; exact Nat.le_trans h1 h2
  unfold maxLen at hcm
  obtain ⟨n, hn⟩ : ∃ n, l.length = n := ⟨_, rfl⟩
  rw [hn] at h h' hcm ⊢
  clear hn
  go_enter Try.func53, Try.ntmps53
  go_wp2
  go_loopw [5] (fun i wr => ∃ j : Nat, j ≤ n ∧ i = .int .i64 j ∧ Below w.heap.size w wr) (fun i _ => n - (intOf i).toNat)
  case atStart => exact ⟨0, Nat.zero_le _, rfl, Below.refl _ _⟩
  case round =>
    obtain ⟨j, hj, rfl, hbl⟩ := hrel
    by_cases hlt : j < n
    · have hbs := hbl.size
      obtain ⟨bu, offu, A5u, c5u, rfl, _, _, hcu, q5u, hwu⟩ := at_Version (h.under hbl s1) hlt
      obtain ⟨bt, offt, A5t, c5t, rfl, _, _, hct, q5t, hwt⟩ := at_Version (h'.under hbl s2) hlt
      obtain ⟨P, hP⟩ : ∃ P, l.getD j nVersion = P := ⟨_, rfl⟩
      rw [hP] at hcu hct q5u q5t
      have u1 := hcu.keep (w' := wr.drew) rfl
      have u2 := hct.keep (w' := wr.drew) rfl
      have hE := geq_Version (x1 := x1) (y1 := y1) (x2 := x2) (y2 := y2) (w := wr.drew) P (q5u.drewN 1) (q5t.drewN 1) (Nat.le_trans s1 hbs) (Nat.le_trans s2 hbs)
      clear hP hwu hwt h h' q5u q5t
      have s9 := u1.all
      have t9 := u2.all
      obtain ⟨x0, x1, x2, x3, x4, x5, x6, x7, x8⟩ := hcu.all
      obtain ⟨y0, y1, y2, y3, y4, y5, y6, y7, y8⟩ := hct.all
      go_wp2_with fail
      go_region_held3 (fun w' => (w'.cell? ⟨bu, offu + j * 9, none⟩ = some (.int .i64 P.f0.f0) ∧ w'.cell? ⟨bu, offu + j * 9 + 1, none⟩ = some (.int .i64 P.f0.f1) ∧ w'.cell? ⟨bu, offu + j * 9 + 2, none⟩ = some (.int .i64 P.f0.f2) ∧ w'.cell? ⟨bu, offu + j * 9 + 3, none⟩ = some (.int .i64 P.f1) ∧ w'.cell? ⟨bu, offu + j * 9 + 4, none⟩ = some (.int .i64 P.f2.f0) ∧ w'.cell? ⟨bu, offu + j * 9 + 5, none⟩ = some (.slice A5u P.f2.f1.length c5u) ∧ w'.cell? ⟨bu, offu + j * 9 + 6, none⟩ = some (.int .i64 P.f2.f2.f0) ∧ w'.cell? ⟨bu, offu + j * 9 + 7, none⟩ = some (.int .i64 P.f2.f2.f1) ∧ w'.cell? ⟨bu, offu + j * 9 + 8, none⟩ = some (.int .i64 P.f2.f2.f2)) ∧ (w'.cell? ⟨bt, offt + j * 9, none⟩ = some (.int .i64 P.f0.f0) ∧ w'.cell? ⟨bt, offt + j * 9 + 1, none⟩ = some (.int .i64 P.f0.f1) ∧ w'.cell? ⟨bt, offt + j * 9 + 2, none⟩ = some (.int .i64 P.f0.f2) ∧ w'.cell? ⟨bt, offt + j * 9 + 3, none⟩ = some (.int .i64 P.f1) ∧ w'.cell? ⟨bt, offt + j * 9 + 4, none⟩ = some (.int .i64 P.f2.f0) ∧ w'.cell? ⟨bt, offt + j * 9 + 5, none⟩ = some (.slice A5t P.f2.f1.length c5t) ∧ w'.cell? ⟨bt, offt + j * 9 + 6, none⟩ = some (.int .i64 P.f2.f2.f0) ∧ w'.cell? ⟨bt, offt + j * 9 + 7, none⟩ = some (.int .i64 P.f2.f2.f1) ∧ w'.cell? ⟨bt, offt + j * 9 + 8, none⟩ = some (.int .i64 P.f2.f2.f2)))
        (first | exact r9 | assumption | go_keep)
        (first | (go_at_call 84; refine hE.mono ?_; rintro e w9 ⟨rfl, hb9⟩; have r9 := And.intro (u1.below hb9).all (u2.below hb9).all))
      all_goals
        go_wp2
        go_roundw
        case rel => exact ⟨j + 1, by omega, by go_num, hbl.drew.trans (hb9.mono hbl.drew.size)⟩
        case measure => simp [intOf]; omega
    · have hd : decide ((j : Int) < (n : Int)) = false := by simp; omega
      go_wp2
      go_ret
      exact ⟨rfl, hbl⟩
set_option maxHeartbeats 1600000 in
set_option maxRecDepth 100000 in
theorem gmark_VersionS {w : World} {l : List TVersion} {v : Value} {S : Nat → Prop} (m : Nat) (h : Owns w (dVersion l) v S) (hm : m + ct (dVersion l) ≤ 1125899906842624) :
    Calls Try.prog 62 #[v, .int .i64 m] w fun e w' => e = .returned (.int .i64 ((m + ct (dVersion l) : Nat) : Int)) ∧ Owns w' (mk m (dVersion l)) v S ∧ Turn S w w' := by
  obtain ⟨D, hD⟩ : ∃ D : Nat → Nat → Dat, D = (fun i => (l.getD i nVersion).c) := ⟨_, rfl⟩
  obtain ⟨n, hn⟩ : ∃ n, l.length = n := ⟨_, rfl⟩
  have hd : dVersion l = .row 9 n D := by rw [hD, ← hn]; rfl
  have hDz : ∀ i, D i = (l.getD i nVersion).c := fun i => by rw [hD]
  have hct : ct (dVersion l) = sumTo (ctRow 9 D) n := by rw [hd]; rfl
  rw [hct] at hm ⊢
  rw [hd] at h ⊢
  obtain ⟨A, c, rfl, h1, h2, h3⟩ := h
  unfold maxLen at h2
  rcases Nat.eq_zero_or_pos n with h0 | hpos
  · subst h0
    go_enter Try.func62, Try.ntmps62
    go_wp2
    refine wp_loop_rounds 1 ?_
    rw [rounds_succ]
    go_wp2
    go_ret
    exact ⟨rfl, ⟨A, c, rfl, h1, by unfold maxLen; omega, fun h => absurd h (by omega)⟩, Turn.refl _ _⟩
  obtain ⟨b, off, G, rfl, hSb, hAp, hc⟩ := h3 hpos
  have hC0 : Cellar w b off n 9 G (inked 9 D m 0 0) := by rw [inked_zero]; exact hc
  have HC0 := Lib.hid hC0
  have HA := Lib.hid hAp
  have HM := Lib.hid hm
  have HD := Lib.hid hDz
  have HL := Lib.hid h1
  have hn63 : n ≤ 9223372036854775807 := by omega
  have hmb : m ≤ 1125899906842624 := by omega
  clear hm hc h3 hC0 hAp hct hd hD hDz hn h1
  go_enter Try.func62, Try.ntmps62
  go_wp2
  go_loopw [1, 5] (fun k i wr => ∃ j kk : Nat, j ≤ n ∧ i = .int .i64 j ∧ k = .int .i64 kk ∧ Hid (kk = m + sumTo (ctRow 9 D) j) ∧ kk ≤ 1125899906842624 ∧ Hid (Cellar wr b off n 9 G (inked 9 D m j 0)) ∧ Hid (Turn S w wr)) (fun _ i _ => n - (intOf i).toNat)
  case atStart => exact ⟨0, m, Nat.zero_le _, rfl, rfl, by simp [sumTo, Hid], hmb, HC0, Turn.refl _ _⟩
  case round =>
    obtain ⟨j, kk, hj, rfl, rfl, HK, hkk, HC, HT⟩ := hrel
    clear HC0
    by_cases hlt : j < n
    · obtain ⟨P, hP⟩ : ∃ P, l.getD j nVersion = P := ⟨_, rfl⟩
      have hDj : D j = P.c := by rw [HD.out, hP]
      have HDj := Lib.hid hDj
      have hb0 : m + before 9 D j 0 = kk := by rw [before_zero, HK.out]
      have htot : kk + sumTo (fun x => ct (P.c x)) 9 ≤ 1125899906842624 := by
        have q1 := sumTo_le (ctRow 9 D) (i := j + 1) (n := n) (by omega)
        have q2 : ctRow 9 D j = sumTo (fun x => ct (P.c x)) 9 := by unfold ctRow; rw [hDj]
        have q3 := HK.out; have q4 := HM.out
        simp only [sumTo] at q1 q2 ⊢
        omega
      rw [ct_Version] at htot
      obtain ⟨t5, ht5⟩ : ∃ t, ct (ints P.f2.f1) = t := ⟨_, rfl⟩
      rw [ht5] at htot
      have hb1 : m + before 9 D j 1 = kk + 1 := by rw [before_succ, hDj]; show m + (before 9 D j 0 + ct (.int P.f0.f0)) = _; simp only [ct]; omega
      have hb2 : m + before 9 D j 2 = kk + 2 := by rw [before_succ, hDj]; show m + (before 9 D j 1 + ct (.int P.f0.f1)) = _; simp only [ct]; omega
      have hb3 : m + before 9 D j 3 = kk + 3 := by rw [before_succ, hDj]; show m + (before 9 D j 2 + ct (.int P.f0.f2)) = _; simp only [ct]; omega
      have hb4 : m + before 9 D j 4 = kk + 4 := by rw [before_succ, hDj]; show m + (before 9 D j 3 + ct (.int P.f1)) = _; simp only [ct]; omega
      have hb5 : m + before 9 D j 5 = kk + 5 := by rw [before_succ, hDj]; show m + (before 9 D j 4 + ct (.int P.f2.f0)) = _; simp only [ct]; omega
      have hb6 : m + before 9 D j 6 = kk + 5 + t5 := by rw [before_succ, hDj]; show m + (before 9 D j 5 + ct (ints P.f2.f1)) = _; rw [ht5]; omega
      have hb7 : m + before 9 D j 7 = kk + 6 + t5 := by rw [before_succ, hDj]; show m + (before 9 D j 6 + ct (.int P.f2.f2.f0)) = _; simp only [ct]; omega
      have hb8 : m + before 9 D j 8 = kk + 7 + t5 := by rw [before_succ, hDj]; show m + (before 9 D j 7 + ct (.int P.f2.f2.f1)) = _; simp only [ct]; omega
      clear hP hDj
      have HB0 := Lib.hid hb0
      have HB1 := Lib.hid hb1
      have HB2 := Lib.hid hb2
      have HB3 := Lib.hid hb3
      have HB4 := Lib.hid hb4
      have HB5 := Lib.hid hb5
      have HB6 := Lib.hid hb6
      have HB7 := Lib.hid hb7
      have HB8 := Lib.hid hb8
      clear hb0 hb1 hb2 hb3 hb4 hb5 hb6 hb7 hb8
      obtain ⟨fz0, u0, cl0, ow0⟩ := HC.out.next hlt (y := 0) (by omega) (by omega)
      rw [HDj.out] at ow0
      replace ow0 : Owns wr (.int P.f0.f0) u0 (G j 0) := ow0
      obtain ⟨rfl, _⟩ := owns_int ow0
      clear ow0
      rw [Nat.add_zero] at fz0 cl0
      obtain ⟨fz1, u1, cl1, ow1⟩ := HC.out.next hlt (y := 1) (by omega) (by omega)
      rw [HDj.out] at ow1
      replace ow1 : Owns wr (.int P.f0.f1) u1 (G j 1) := ow1
      obtain ⟨rfl, _⟩ := owns_int ow1
      clear ow1
      obtain ⟨fz2, u2, cl2, ow2⟩ := HC.out.next hlt (y := 2) (by omega) (by omega)
      rw [HDj.out] at ow2
      replace ow2 : Owns wr (.int P.f0.f2) u2 (G j 2) := ow2
      obtain ⟨rfl, _⟩ := owns_int ow2
      clear ow2
      obtain ⟨fz3, u3, cl3, ow3⟩ := HC.out.next hlt (y := 3) (by omega) (by omega)
      rw [HDj.out] at ow3
      replace ow3 : Owns wr (.int P.f1) u3 (G j 3) := ow3
      obtain ⟨rfl, _⟩ := owns_int ow3
      clear ow3
      obtain ⟨fz4, u4, cl4, ow4⟩ := HC.out.next hlt (y := 4) (by omega) (by omega)
      rw [HDj.out] at ow4
      replace ow4 : Owns wr (.int P.f2.f0) u4 (G j 4) := ow4
      obtain ⟨rfl, _⟩ := owns_int ow4
      clear ow4
      obtain ⟨fz5, u5, cl5, ow5⟩ := HC.out.next hlt (y := 5) (by omega) (by omega)
      rw [HDj.out] at ow5
      replace ow5 : Owns wr (ints P.f2.f1) u5 (G j 5) := ow5
      obtain ⟨A5, c5, rfl⟩ := owns_ints ow5
      obtain ⟨fz6, u6, cl6, ow6⟩ := HC.out.next hlt (y := 6) (by omega) (by omega)
      rw [HDj.out] at ow6
      replace ow6 : Owns wr (.int P.f2.f2.f0) u6 (G j 6) := ow6
      obtain ⟨rfl, _⟩ := owns_int ow6
      clear ow6
      obtain ⟨fz7, u7, cl7, ow7⟩ := HC.out.next hlt (y := 7) (by omega) (by omega)
      rw [HDj.out] at ow7
      replace ow7 : Owns wr (.int P.f2.f2.f1) u7 (G j 7) := ow7
      obtain ⟨rfl, _⟩ := owns_int ow7
      clear ow7
      obtain ⟨fz8, u8, cl8, ow8⟩ := HC.out.next hlt (y := 8) (by omega) (by omega)
      rw [HDj.out] at ow8
      replace ow8 : Owns wr (.int P.f2.f2.f2) u8 (G j 8) := ow8
      obtain ⟨rfl, _⟩ := owns_int ow8
      clear ow8
      have HC1 := Lib.hid (Cellar.cell (v := .int .i64 ((kk : Int))) (x := 0) HC.out HA.out hlt (by omega) (fun _ _ => by rw [HB0.out, HDj.out]; exact ink_int (by first | rfl | (congr 1; omega)) (by omega)))
      rw [Nat.add_zero] at HC1
      have HT1 : Hid (Turn S w (wr.setCell ⟨b, off + j * 9, none⟩ (.int .i64 ((kk : Int))))) := Turn.setCell HT.out hSb _
      have HC2 := Lib.hid (Cellar.cell (v := .int .i64 ((kk : Int) + 1)) (x := 1) HC1.out HA.out hlt (by omega) (fun _ _ => by rw [HB1.out, HDj.out]; exact ink_int (by first | rfl | (congr 1; omega)) (by omega)))
      have HT2 : Hid (Turn S w ((wr.setCell ⟨b, off + j * 9, none⟩ (.int .i64 ((kk : Int)))).setCell ⟨b, off + j * 9 + 1, none⟩ (.int .i64 ((kk : Int) + 1)))) := Turn.setCell HT1.out hSb _
      have HC3 := Lib.hid (Cellar.cell (v := .int .i64 ((kk : Int) + 1 + 1)) (x := 2) HC2.out HA.out hlt (by omega) (fun _ _ => by rw [HB2.out, HDj.out]; exact ink_int (by first | rfl | (congr 1; omega)) (by omega)))
      have HT3 : Hid (Turn S w (((wr.setCell ⟨b, off + j * 9, none⟩ (.int .i64 ((kk : Int)))).setCell ⟨b, off + j * 9 + 1, none⟩ (.int .i64 ((kk : Int) + 1))).setCell ⟨b, off + j * 9 + 2, none⟩ (.int .i64 ((kk : Int) + 1 + 1)))) := Turn.setCell HT2.out hSb _
      have HC4 := Lib.hid (Cellar.cell (v := .int .i64 ((kk : Int) + 1 + 1 + 1)) (x := 3) HC3.out HA.out hlt (by omega) (fun _ _ => by rw [HB3.out, HDj.out]; exact ink_int (by first | rfl | (congr 1; omega)) (by omega)))
      have HT4 : Hid (Turn S w ((((wr.setCell ⟨b, off + j * 9, none⟩ (.int .i64 ((kk : Int)))).setCell ⟨b, off + j * 9 + 1, none⟩ (.int .i64 ((kk : Int) + 1))).setCell ⟨b, off + j * 9 + 2, none⟩ (.int .i64 ((kk : Int) + 1 + 1))).setCell ⟨b, off + j * 9 + 3, none⟩ (.int .i64 ((kk : Int) + 1 + 1 + 1)))) := Turn.setCell HT3.out hSb _
      have HC5 := Lib.hid (Cellar.cell (v := .int .i64 ((kk : Int) + 1 + 1 + 1 + 1)) (x := 4) HC4.out HA.out hlt (by omega) (fun _ _ => by rw [HB4.out, HDj.out]; exact ink_int (by first | rfl | (congr 1; omega)) (by omega)))
      have HT5 : Hid (Turn S w (((((wr.setCell ⟨b, off + j * 9, none⟩ (.int .i64 ((kk : Int)))).setCell ⟨b, off + j * 9 + 1, none⟩ (.int .i64 ((kk : Int) + 1))).setCell ⟨b, off + j * 9 + 2, none⟩ (.int .i64 ((kk : Int) + 1 + 1))).setCell ⟨b, off + j * 9 + 3, none⟩ (.int .i64 ((kk : Int) + 1 + 1 + 1))).setCell ⟨b, off + j * 9 + 4, none⟩ (.int .i64 ((kk : Int) + 1 + 1 + 1 + 1)))) := Turn.setCell HT4.out hSb _
      have hown : Owns (((((wr.setCell ⟨b, off + j * 9, none⟩ (.int .i64 ((kk : Int)))).setCell ⟨b, off + j * 9 + 1, none⟩ (.int .i64 ((kk : Int) + 1))).setCell ⟨b, off + j * 9 + 2, none⟩ (.int .i64 ((kk : Int) + 1 + 1))).setCell ⟨b, off + j * 9 + 3, none⟩ (.int .i64 ((kk : Int) + 1 + 1 + 1))).setCell ⟨b, off + j * 9 + 4, none⟩ (.int .i64 ((kk : Int) + 1 + 1 + 1 + 1))) (ints P.f2.f1) (.slice A5 P.f2.f1.length c5) (G j 5) := ow5.keep fun t _ hG => by
        have hne := (HA.out.sub j 5 t hlt (by omega) hG).2
        rw [Below.heap_setCell _ _ _ _ hne, Below.heap_setCell _ _ _ _ hne, Below.heap_setCell _ _ _ _ hne, Below.heap_setCell _ _ _ _ hne, Below.heap_setCell _ _ _ _ hne]
      have hcell : (((((wr.setCell ⟨b, off + j * 9, none⟩ (.int .i64 ((kk : Int)))).setCell ⟨b, off + j * 9 + 1, none⟩ (.int .i64 ((kk : Int) + 1))).setCell ⟨b, off + j * 9 + 2, none⟩ (.int .i64 ((kk : Int) + 1 + 1))).setCell ⟨b, off + j * 9 + 3, none⟩ (.int .i64 ((kk : Int) + 1 + 1 + 1))).setCell ⟨b, off + j * 9 + 4, none⟩ (.int .i64 ((kk : Int) + 1 + 1 + 1 + 1))).cell? ⟨b, off + j * 9 + 5, none⟩ = some (.slice A5 P.f2.f1.length c5) := by
        repeat rw [cell_set_ne' _ (by omega)]
        exact cl5
      have hM := gmark_IntS (kk + 5) hown (by rw [ht5]; omega)
      obtain ⟨r1, hr1⟩ : ∃ r : Nat, kk + 5 + ct (ints P.f2.f1) = r := ⟨_, rfl⟩
      rw [hr1] at hM
      rw [show ((kk + 5 : Nat) : Int) = (kk : Int) + 1 + 1 + 1 + 1 + 1 by omega] at hM
      rw [ht5] at hr1
      have hrb1 : r1 ≤ 1125899906842624 := by omega
      have HR1 := Lib.hid hr1
      clear hr1 hown ow5
      go_wp2_with fail
      go_at_call 63
      refine Calls.mono hM ?_
      rintro e w1 ⟨rfl, ho, ht⟩
      have HC6 := Lib.hid (Cellar.inner (x := 5) HC5.out HA.out hlt (by omega) hcell ht (by rw [HB5.out, HDj.out]; have := HR1.out; exact (show kk + 5 = kk + 5 by have := HR1.out; omega) ▸ ho))
      have HT6 : Hid (Turn S w w1) := Turn.trans HT5.out (Turn.mono ht fun t hG => (HA.out.sub j 5 t hlt (by omega) hG).1)
      clear hM hcell ho ht fz0 cl0 fz1 cl1 fz2 cl2 fz3 cl3 fz4 cl4 fz5 cl5 fz6 cl6 fz7 cl7 fz8 cl8
      clear HC5 HT5
      obtain ⟨fz6, u6, cl6, ow6⟩ := HC6.out.next hlt (y := 6) (by omega) (by omega)
      rw [HDj.out] at ow6
      replace ow6 : Owns w1 (.int P.f2.f2.f0) u6 (G j 6) := ow6
      obtain ⟨rfl, _⟩ := owns_int ow6
      clear ow6
      obtain ⟨fz7, u7, cl7, ow7⟩ := HC6.out.next hlt (y := 7) (by omega) (by omega)
      rw [HDj.out] at ow7
      replace ow7 : Owns w1 (.int P.f2.f2.f1) u7 (G j 7) := ow7
      obtain ⟨rfl, _⟩ := owns_int ow7
      clear ow7
      obtain ⟨fz8, u8, cl8, ow8⟩ := HC6.out.next hlt (y := 8) (by omega) (by omega)
      rw [HDj.out] at ow8
      replace ow8 : Owns w1 (.int P.f2.f2.f2) u8 (G j 8) := ow8
      obtain ⟨rfl, _⟩ := owns_int ow8
      clear ow8
      have HC7 := Lib.hid (Cellar.cell (v := .int .i64 ((r1 : Int))) (x := 6) HC6.out HA.out hlt (by omega) (fun _ _ => by rw [HB6.out, HDj.out]; exact ink_int (by first | rfl | (have := HR1.out; congr 1; omega)) (by omega)))
      have HT7 : Hid (Turn S w (w1.setCell ⟨b, off + j * 9 + 6, none⟩ (.int .i64 ((r1 : Int))))) := Turn.setCell HT6.out hSb _
      have HC8 := Lib.hid (Cellar.cell (v := .int .i64 ((r1 : Int) + 1)) (x := 7) HC7.out HA.out hlt (by omega) (fun _ _ => by rw [HB7.out, HDj.out]; exact ink_int (by first | rfl | (have := HR1.out; congr 1; omega)) (by omega)))
      have HT8 : Hid (Turn S w ((w1.setCell ⟨b, off + j * 9 + 6, none⟩ (.int .i64 ((r1 : Int)))).setCell ⟨b, off + j * 9 + 7, none⟩ (.int .i64 ((r1 : Int) + 1)))) := Turn.setCell HT7.out hSb _
      have HC9 := Lib.hid (Cellar.cell (v := .int .i64 ((r1 : Int) + 1 + 1)) (x := 8) HC8.out HA.out hlt (by omega) (fun _ _ => by rw [HB8.out, HDj.out]; exact ink_int (by first | rfl | (have := HR1.out; congr 1; omega)) (by omega)))
      have HT9 : Hid (Turn S w (((w1.setCell ⟨b, off + j * 9 + 6, none⟩ (.int .i64 ((r1 : Int)))).setCell ⟨b, off + j * 9 + 7, none⟩ (.int .i64 ((r1 : Int) + 1))).setCell ⟨b, off + j * 9 + 8, none⟩ (.int .i64 ((r1 : Int) + 1 + 1)))) := Turn.setCell HT8.out hSb _
      have hfin : m + sumTo (ctRow 9 D) (j + 1) = kk + 8 + t5 := by rw [← before_next, before_succ, HDj.out]; show m + (before 9 D j 8 + ct (.int P.f2.f2.f2)) = _; have := HB8.out; simp only [ct]; omega
      have HF := Lib.hid hfin
      clear hfin
      go_wp2
      go_roundw
      case rel =>
        refine ⟨j + 1, r1 + 3, by omega, by go_num, (by rw [show ((r1 + 3 : Nat) : Int) = (r1 : Int) + 1 + 1 + 1 by omega]), ?_, ?_, ?_, HT9⟩
        · have := HR1.out; have h1 := HF.out; show _ = _; omega
        · have := HR1.out; have h1 := HF.out; omega
        · exact (HC9.out).round
      case measure => simp [intOf]; omega
    · have hd : decide ((j : Int) < (n : Int)) = false := by simp; omega
      have HE := Lib.hid (show j = n by omega)
      go_wp2
      go_ret
      have g1 := HC.out
      have g2 := HK.out
      rw [HE.out] at g1 g2
      exact ⟨by rw [g2]; rfl, ⟨_, c, rfl, HL.out, by unfold maxLen; omega, fun _ => ⟨b, off, G, rfl, hSb, HA.out, g1.all⟩⟩, HT.out⟩
theorem lies_mk_Version {lo hi m : Nat} {w : World} {l : List TVersion} {v : Value} (h : Lies lo hi w (mk m (dVersion l)) v) : ∃ A c, v = .slice A l.length c := by
  obtain ⟨A, c, e, _⟩ := h; exact ⟨A, c, e⟩
end Go.Proofs.Ytagnhfalmefbhaa.Gen
