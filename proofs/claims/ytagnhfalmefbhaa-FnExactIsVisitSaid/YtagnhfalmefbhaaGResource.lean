/-
  A struct (Resource): its cells in the words for data of any depth, and the exact laws' helpers at it.
  Conditions: what it leads to lies in memory.
-/
import Derived.Test.YtagnhfalmefbhaaDatInts
import Derived.Test.YtagnhfalmefbhaaBlk
import Derived.Test.YtagnhfalmefbhaaGAddress
import Derived.WalkKit
import Derived.Handy
import Derived.Deep.RegionHeld3
import Derived.Deep.CutBlock
import Derived.Deep.DeepCutAuto
namespace Go.Proofs.Ytagnhfalmefbhaa.Gen
open Go Go.RowKit Go.Proofs.Ytagnhfalmefbhaa.Mem

structure TResource where
  f0 : Int
  f1 : List Int
  f2 : TAddress
def nResource : TResource := ⟨0, [], nAddress⟩
def TResource.c (P : TResource) : Nat → Dat
  | 0 => .int P.f0
  | 1 => ints P.f1
  | 2 => .int P.f2.f0
  | 3 => .int P.f2.f1
  | 4 => .int P.f2.f2
  | _ => .int 0
def dResource (l : List TResource) : Dat := .row 5 l.length fun i => (l.getD i nResource).c
/-- The cells of an element. -/
structure CResource (w : World) (b o : Nat) (P : TResource) (A1 : Option Addr) (c1 : Nat) : Prop where
  c0 : w.cell? ⟨b, o, none⟩ = some (.int .i64 P.f0)
  c1' : w.cell? ⟨b, o + 1, none⟩ = some (.slice A1 P.f1.length c1)
  c2 : w.cell? ⟨b, o + 2, none⟩ = some (.int .i64 P.f2.f0)
  c3 : w.cell? ⟨b, o + 3, none⟩ = some (.int .i64 P.f2.f1)
  c4 : w.cell? ⟨b, o + 4, none⟩ = some (.int .i64 P.f2.f2)
section
variable {lo hi b o : Nat} {w w' : World} {P : TResource} {A1 : Option Addr} {c1 : Nat}
theorem CResource.keep (h : CResource w b o P A1 c1) (hb : w'.heap[b]? = w.heap[b]?) : CResource w' b o P A1 c1 :=
  ⟨by rw [Mem.cell_of_heap hb]; exact h.c0, by rw [Mem.cell_of_heap hb]; exact h.c1', by rw [Mem.cell_of_heap hb]; exact h.c2, by rw [Mem.cell_of_heap hb]; exact h.c3, by rw [Mem.cell_of_heap hb]; exact h.c4⟩
theorem CResource.lt (h : CResource w b o P A1 c1) : b < w.heap.size := Mem.cell_lt h.c0
theorem CResource.below (h : CResource w b o P A1 c1) (hb : Below w.heap.size w w') : CResource w' b o P A1 c1 := h.keep (hb.block _ h.lt)
theorem CResource.all (h : CResource w b o P A1 c1) : w.cell? ⟨b, o, none⟩ = some (.int .i64 P.f0) ∧ w.cell? ⟨b, o + 1, none⟩ = some (.slice A1 P.f1.length c1) ∧ w.cell? ⟨b, o + 2, none⟩ = some (.int .i64 P.f2.f0) ∧ w.cell? ⟨b, o + 3, none⟩ = some (.int .i64 P.f2.f1) ∧ w.cell? ⟨b, o + 4, none⟩ = some (.int .i64 P.f2.f2) := ⟨h.c0, h.c1', h.c2, h.c3, h.c4⟩
end
theorem at_Resource {lo hi : Nat} {w : World} {A : Option Addr} {n c : Nat} {l : List TResource} (h : Lies lo hi w (dResource l) (.slice A n c)) {j : Nat} (hj : j < n) :
    ∃ (b off : Nat) (A1 : Option Addr) (c1 : Nat), A = some ⟨b, off, none⟩ ∧ lo ≤ b ∧ b < hi ∧ CResource w b (off + j * 5) (l.getD j nResource) A1 c1 ∧ Lies lo hi w (ints (l.getD j nResource).f1) (.slice A1 (l.getD j nResource).f1.length c1) ∧ ((Lit.int .i64 (l.getD j nResource).f0).wf = true ∧ (Lit.int .i64 (l.getD j nResource).f2.f0).wf = true ∧ (Lit.int .i64 (l.getD j nResource).f2.f1).wf = true ∧ (Lit.int .i64 (l.getD j nResource).f2.f2).wf = true ∧ True) := by
  obtain ⟨A', c', e, h1, h2, h3⟩ := h
  injection e with e1 e2 e3
  subst e1 e2 e3
  obtain ⟨b, off, rfl, k1, k2, k3⟩ := h3 (by omega)
  have k4 : ∀ x, x < 5 → ∃ u, w.cell? ⟨b, off + j * 5 + x, none⟩ = some u ∧ Lies lo hi w ((l.getD j nResource).c x) u := fun x hx => k3 j hj x hx
  clear k3 h3
  obtain ⟨P, hP⟩ : ∃ P, l.getD j nResource = P := ⟨_, rfl⟩
  rw [hP] at k4 ⊢
  obtain ⟨u0, g0, q0⟩ := k4 0 (by omega)
  replace q0 : Lies lo hi w (.int P.f0) u0 := q0
  obtain ⟨rfl, w0⟩ := lies_int q0
  obtain ⟨u1, g1, q1⟩ := k4 1 (by omega)
  replace q1 : Lies lo hi w (ints P.f1) u1 := q1
  obtain ⟨A1, c1, rfl⟩ := lies_ints q1
  obtain ⟨u2, g2, q2⟩ := k4 2 (by omega)
  replace q2 : Lies lo hi w (.int P.f2.f0) u2 := q2
  obtain ⟨rfl, w2⟩ := lies_int q2
  obtain ⟨u3, g3, q3⟩ := k4 3 (by omega)
  replace q3 : Lies lo hi w (.int P.f2.f1) u3 := q3
  obtain ⟨rfl, w3⟩ := lies_int q3
  obtain ⟨u4, g4, q4⟩ := k4 4 (by omega)
  replace q4 : Lies lo hi w (.int P.f2.f2) u4 := q4
  obtain ⟨rfl, w4⟩ := lies_int q4
  exact ⟨b, off, A1, c1, rfl, k1, k2, ⟨g0, g1, g2, g3, g4⟩, q1, ⟨w0, w2, w3, w4, trivial⟩⟩
theorem lies_Resource {lo hi : Nat} {w : World} {l : List TResource} {v : Value} (h : Lies lo hi w (dResource l) v) : ∃ A c, v = .slice A l.length c := by
  obtain ⟨A, c, e, _⟩ := h; exact ⟨A, c, e⟩
theorem room_Resource (P : TResource) : sumTo (fun x => room (P.c x)) 5 = room (ints P.f1) := by
  first | (simp [sumTo, TResource.c, room]; done) | (simp [sumTo, TResource.c, room]; omega)
theorem ct_Resource (P : TResource) : sumTo (fun x => ct (P.c x)) 5 = 4 + ct (ints P.f1) := by
  first | (simp [sumTo, TResource.c, ct]; done) | (simp [sumTo, TResource.c, ct]; omega)

set_option maxHeartbeats 1600000 in
set_option maxRecDepth 100000 in
theorem gto_Resource {lo hi : Nat} {w : World} (P : TResource) {A1 : Option Addr} {c1 : Nat} (h1 : Lies lo hi w (ints P.f1) (.slice A1 P.f1.length c1)) (hh : hi ≤ w.heap.size) (hm1 : room (ints P.f1) ≤ 1099511627776) :
    Calls Try.prog 22 #[(Value.agg #[.int .i64 P.f0, .slice A1 P.f1.length c1, .int .i64 P.f2.f0, .int .i64 P.f2.f1, .int .i64 P.f2.f2])] w fun e w' => ∃ (a1 : Option Addr) (e1 : Nat), e = .returned (Value.agg #[.int .i64 P.f0, .slice a1 P.f1.length e1, .int .i64 P.f2.f0, .int .i64 P.f2.f1, .int .i64 P.f2.f2]) ∧ OwnD (w.heap.size) (w'.heap.size) w' (ints P.f1) (.slice a1 P.f1.length e1) ∧ Below w.heap.size w w' := by
  obtain ⟨O1, hO1⟩ : ∃ O, O = Obj.cells #[Value.int .i64 P.f0, .slice A1 P.f1.length c1, .int .i64 P.f2.f0, .int .i64 P.f2.f1, .int .i64 P.f2.f2] 52 (0, 0) := ⟨_, rfl⟩
  obtain ⟨O2, hO2⟩ : ∃ O, O = Obj.cells #[Value.int .i64 0, .slice none 0 0, .int .i64 0, .int .i64 0, .int .i64 0] 39 (0, 0) := ⟨_, rfl⟩
  obtain ⟨O3, hO3⟩ : ∃ O, O = Obj.cells #[Value.int .i64 P.f0, .slice none 0 0, .int .i64 0, .int .i64 0, .int .i64 0] 39 (0, 0) := ⟨_, rfl⟩
  have hB : Below w.heap.size w (((w.alloc O1).alloc O2).alloc O3) := by repeat' (first | exact Below.refl _ _ | assumption | refine Below.setCell ?_ ?_ _ | refine Below.alloc ?_ ?_ _ | refine Gen.gbelow_drewN ?_ _ | refine Below.drew ?_ | exact Nat.le_refl _ | omega | (dsimp only; omega) | refine Gen.gle_alloc ?_ | refine Gen.gle_set ?_ | refine Gen.gle_drewN ?_ | refine Gen.gle_drew ?_)
  have qA : Blk 52 w.heap.size [Value.int .i64 P.f0, .slice A1 P.f1.length c1, .int .i64 P.f2.f0, .int .i64 P.f2.f1, .int .i64 P.f2.f2] (((w.alloc O1).alloc O2).alloc O3) := by rw [hO1]; exact ((Blk.new _ _ w).alloc _).alloc _
  have qR : Blk 39 (w.heap.size + 1) [Value.int .i64 0, .slice none 0 0, .int .i64 0, .int .i64 0, .int .i64 0] (((w.alloc O1).alloc O2).alloc O3) := by have := (Blk.new 39 [Value.int .i64 0, .slice none 0 0, .int .i64 0, .int .i64 0, .int .i64 0] (w.alloc O1)).alloc O3; rw [gsize_alloc] at this; rw [hO2]; exact this
  have qO : Blk 39 (w.heap.size + 1 + 1) [Value.int .i64 P.f0, .slice none 0 0, .int .i64 0, .int .i64 0, .int .i64 0] (((w.alloc O1).alloc O2).alloc O3) := by have := Blk.new 39 [Value.int .i64 P.f0, .slice none 0 0, .int .i64 0, .int .i64 0, .int .i64 0] ((w.alloc O1).alloc O2); rw [gsize_alloc, gsize_alloc] at this; rw [hO3]; exact this
  have hS : (((w.alloc O1).alloc O2).alloc O3).heap.size = w.heap.size + 3 := by simp only [gsize_alloc]
  subst hO1 hO2 hO3
  go_enter Try.func22, Try.ntmps22
  go_wp2_with fail
  go_at_call 52
  refine Calls.mono (gto_IntS (lo := lo) (hi := hi) (h1.under (B := w.heap.size) hB hh) (Nat.le_trans hh hB.size) hm1) ?_
  rintro e w1 ⟨u, rfl, ho, hb⟩
  obtain ⟨a1, e1, rfl, _⟩ : ∃ a c, u = .slice a P.f1.length c ∧ True := by obtain ⟨a, c, q, _⟩ := ho; exact ⟨a, c, q, trivial⟩
  have ho1 := ho
  have qA := qA.below hb
  have qR := qR.below hb
  have qO := qO.below hb
  have hz1 := hb.size
  rw [hS] at hz1
  try rw [hS] at ho1
  have hB := hB.trans (hb.mono hB.size)
  clear hb
  clear hS
  have fO := qO.free
  have fR := qR.free
  have ca0 : w1.cell? ⟨w.heap.size, 0, none⟩ = some (.int .i64 P.f0) := qA.at rfl
  have ca1 : w1.cell? ⟨w.heap.size, 1, none⟩ = some (.slice A1 P.f1.length c1) := qA.at rfl
  have ca2 : w1.cell? ⟨w.heap.size, 2, none⟩ = some (.int .i64 P.f2.f0) := qA.at rfl
  have ca3 : w1.cell? ⟨w.heap.size, 3, none⟩ = some (.int .i64 P.f2.f1) := qA.at rfl
  have ca4 : w1.cell? ⟨w.heap.size, 4, none⟩ = some (.int .i64 P.f2.f2) := qA.at rfl
  have co0 : w1.cell? ⟨w.heap.size + 1 + 1, 0, none⟩ = some (.int .i64 P.f0) := qO.at rfl
  have cr0 : w1.cell? ⟨w.heap.size + 1, 0, none⟩ = some (.int .i64 0) := qR.at rfl
  have fo0 : w1.frozen? ⟨w.heap.size + 1 + 1, 0, none⟩ = false := fO 0
  have fr0 : w1.frozen? ⟨w.heap.size + 1, 0, none⟩ = false := fR 0
  have co1 : w1.cell? ⟨w.heap.size + 1 + 1, 1, none⟩ = some (.slice none 0 0) := qO.at rfl
  have cr1 : w1.cell? ⟨w.heap.size + 1, 1, none⟩ = some (.slice none 0 0) := qR.at rfl
  have fo1 : w1.frozen? ⟨w.heap.size + 1 + 1, 1, none⟩ = false := fO 1
  have fr1 : w1.frozen? ⟨w.heap.size + 1, 1, none⟩ = false := fR 1
  have co2 : w1.cell? ⟨w.heap.size + 1 + 1, 2, none⟩ = some (.int .i64 0) := qO.at rfl
  have cr2 : w1.cell? ⟨w.heap.size + 1, 2, none⟩ = some (.int .i64 0) := qR.at rfl
  have fo2 : w1.frozen? ⟨w.heap.size + 1 + 1, 2, none⟩ = false := fO 2
  have fr2 : w1.frozen? ⟨w.heap.size + 1, 2, none⟩ = false := fR 2
  have co3 : w1.cell? ⟨w.heap.size + 1 + 1, 3, none⟩ = some (.int .i64 0) := qO.at rfl
  have cr3 : w1.cell? ⟨w.heap.size + 1, 3, none⟩ = some (.int .i64 0) := qR.at rfl
  have fo3 : w1.frozen? ⟨w.heap.size + 1 + 1, 3, none⟩ = false := fO 3
  have fr3 : w1.frozen? ⟨w.heap.size + 1, 3, none⟩ = false := fR 3
  have co4 : w1.cell? ⟨w.heap.size + 1 + 1, 4, none⟩ = some (.int .i64 0) := qO.at rfl
  have cr4 : w1.cell? ⟨w.heap.size + 1, 4, none⟩ = some (.int .i64 0) := qR.at rfl
  have fo4 : w1.frozen? ⟨w.heap.size + 1 + 1, 4, none⟩ = false := fO 4
  have fr4 : w1.frozen? ⟨w.heap.size + 1, 4, none⟩ = false := fR 4
  have hV : Below w.heap.size w (w1.setCell ⟨w.heap.size + 1 + 1, 1, none⟩ (.slice a1 P.f1.length e1)) := by (iterate 1 (refine Below.setCell ?_ (by dsimp only; omega) _)); exact hB
  have hZ : Zone 0 (w.heap.size + 3) w1 (w1.setCell ⟨w.heap.size + 1 + 1, 1, none⟩ (.slice a1 P.f1.length e1)) := by (iterate 1 (refine Zone.setCell ?_ ⟨by omega, by omega⟩ _)); exact Zone.refl _ _ _
  have hVs : (w1.setCell ⟨w.heap.size + 1 + 1, 1, none⟩ (.slice a1 P.f1.length e1)).heap.size = w1.heap.size := by simp only [gsize_set]
  have pO : Blk 39 (w.heap.size + 1 + 1) [Value.int .i64 P.f0, .slice a1 P.f1.length e1, .int .i64 0, .int .i64 0, .int .i64 0] (w1.setCell ⟨w.heap.size + 1 + 1, 1, none⟩ (.slice a1 P.f1.length e1)) := (qO.set 1 (.slice a1 P.f1.length e1))
  have pR := (qR.other (a := ⟨w.heap.size + 1 + 1, 1, none⟩) (.slice a1 P.f1.length e1) (by dsimp only; omega))
  have pA := (qA.other (a := ⟨w.heap.size + 1 + 1, 1, none⟩) (.slice a1 P.f1.length e1) (by dsimp only; omega))
  have ho1 := OwnD.zone ho1 hZ (Or.inr (by omega))
  go_wp2_with fail
  go_at_call 57
  refine Calls.mono (gto_Address P.f2) ?_
  rintro e w2 ⟨rfl, hb⟩
  have qA := pA.below hb
  have qR := pR.below hb
  have qO := pO.below hb
  have hz2 := hb.size
  rw [hVs] at hz2
  have ho1 := OwnD.under ho1 hb (by first | omega | (rw [hVs]; omega))
  have hB := hV.trans (hb.mono hV.size)
  clear pA pR pO hV hZ hVs
  clear hb
  have fO := qO.free
  have fR := qR.free
  have ca0 : w2.cell? ⟨w.heap.size, 0, none⟩ = some (.int .i64 P.f0) := qA.at rfl
  have ca1 : w2.cell? ⟨w.heap.size, 1, none⟩ = some (.slice A1 P.f1.length c1) := qA.at rfl
  have ca2 : w2.cell? ⟨w.heap.size, 2, none⟩ = some (.int .i64 P.f2.f0) := qA.at rfl
  have ca3 : w2.cell? ⟨w.heap.size, 3, none⟩ = some (.int .i64 P.f2.f1) := qA.at rfl
  have ca4 : w2.cell? ⟨w.heap.size, 4, none⟩ = some (.int .i64 P.f2.f2) := qA.at rfl
  have co0 : w2.cell? ⟨w.heap.size + 1 + 1, 0, none⟩ = some (.int .i64 P.f0) := qO.at rfl
  have cr0 : w2.cell? ⟨w.heap.size + 1, 0, none⟩ = some (.int .i64 0) := qR.at rfl
  have fo0 : w2.frozen? ⟨w.heap.size + 1 + 1, 0, none⟩ = false := fO 0
  have fr0 : w2.frozen? ⟨w.heap.size + 1, 0, none⟩ = false := fR 0
  have co1 : w2.cell? ⟨w.heap.size + 1 + 1, 1, none⟩ = some (.slice a1 P.f1.length e1) := qO.at rfl
  have cr1 : w2.cell? ⟨w.heap.size + 1, 1, none⟩ = some (.slice none 0 0) := qR.at rfl
  have fo1 : w2.frozen? ⟨w.heap.size + 1 + 1, 1, none⟩ = false := fO 1
  have fr1 : w2.frozen? ⟨w.heap.size + 1, 1, none⟩ = false := fR 1
  have co2 : w2.cell? ⟨w.heap.size + 1 + 1, 2, none⟩ = some (.int .i64 0) := qO.at rfl
  have cr2 : w2.cell? ⟨w.heap.size + 1, 2, none⟩ = some (.int .i64 0) := qR.at rfl
  have fo2 : w2.frozen? ⟨w.heap.size + 1 + 1, 2, none⟩ = false := fO 2
  have fr2 : w2.frozen? ⟨w.heap.size + 1, 2, none⟩ = false := fR 2
  have co3 : w2.cell? ⟨w.heap.size + 1 + 1, 3, none⟩ = some (.int .i64 0) := qO.at rfl
  have cr3 : w2.cell? ⟨w.heap.size + 1, 3, none⟩ = some (.int .i64 0) := qR.at rfl
  have fo3 : w2.frozen? ⟨w.heap.size + 1 + 1, 3, none⟩ = false := fO 3
  have fr3 : w2.frozen? ⟨w.heap.size + 1, 3, none⟩ = false := fR 3
  have co4 : w2.cell? ⟨w.heap.size + 1 + 1, 4, none⟩ = some (.int .i64 0) := qO.at rfl
  have cr4 : w2.cell? ⟨w.heap.size + 1, 4, none⟩ = some (.int .i64 0) := qR.at rfl
  have fo4 : w2.frozen? ⟨w.heap.size + 1 + 1, 4, none⟩ = false := fO 4
  have fr4 : w2.frozen? ⟨w.heap.size + 1, 4, none⟩ = false := fR 4
  go_upto_region 5 with fail
  obtain ⟨V, hV⟩ : ∃ V, V = (((w2.setCell ⟨w.heap.size + 1 + 1, 2, none⟩ (.int .i64 P.f2.f0)).setCell ⟨w.heap.size + 1 + 1, 3, none⟩ (.int .i64 P.f2.f1)).setCell ⟨w.heap.size + 1 + 1, 4, none⟩ (.int .i64 P.f2.f2)) := ⟨_, rfl⟩
  have hBV : Below w.heap.size w V := by rw [hV]; (iterate 3 (refine Below.setCell ?_ (by dsimp only; omega) _)); exact hB
  have hZV : Zone 0 (w.heap.size + 3) w2 V := by rw [hV]; (iterate 3 (refine Zone.setCell ?_ ⟨by omega, by omega⟩ _)); exact Zone.refl _ _ _
  have hVs : V.heap.size = w2.heap.size := by rw [hV]; simp only [gsize_set]
  have pO : Blk 39 (w.heap.size + 1 + 1) [Value.int .i64 P.f0, .slice a1 P.f1.length e1, .int .i64 P.f2.f0, .int .i64 P.f2.f1, .int .i64 P.f2.f2] V := by rw [hV]; exact (((qO.set 2 (.int .i64 P.f2.f0)).set 3 (.int .i64 P.f2.f1)).set 4 (.int .i64 P.f2.f2))
  have pR : Blk 39 (w.heap.size + 1) [Value.int .i64 0, .slice none 0 0, .int .i64 0, .int .i64 0, .int .i64 0] V := by rw [hV]; exact (((qR.other (a := ⟨w.heap.size + 1 + 1, 2, none⟩) (.int .i64 P.f2.f0) (by dsimp only; omega)).other (a := ⟨w.heap.size + 1 + 1, 3, none⟩) (.int .i64 P.f2.f1) (by dsimp only; omega)).other (a := ⟨w.heap.size + 1 + 1, 4, none⟩) (.int .i64 P.f2.f2) (by dsimp only; omega))
  have ho1 := OwnD.zone ho1 hZV (Or.inr (by omega))
  rw [← hV]
  clear hV hZV qA qR qO fO fR ca0 co0 cr0 fo0 fr0 ca1 co1 cr1 fo1 fr1 ca2 co2 cr2 fo2 fr2 ca3 co3 cr3 fo3 fr3 ca4 co4 cr4 fo4 fr4 hB
  have co0 : V.cell? ⟨w.heap.size + 1 + 1, 0, none⟩ = some (.int .i64 P.f0) := pO.at rfl
  have cr0 : V.cell? ⟨w.heap.size + 1, 0, none⟩ = some (.int .i64 0) := pR.at rfl
  have fr0 : V.frozen? ⟨w.heap.size + 1, 0, none⟩ = false := pR.free 0
  have co1 : V.cell? ⟨w.heap.size + 1 + 1, 1, none⟩ = some (.slice a1 P.f1.length e1) := pO.at rfl
  have cr1 : V.cell? ⟨w.heap.size + 1, 1, none⟩ = some (.slice none 0 0) := pR.at rfl
  have fr1 : V.frozen? ⟨w.heap.size + 1, 1, none⟩ = false := pR.free 1
  have co2 : V.cell? ⟨w.heap.size + 1 + 1, 2, none⟩ = some (.int .i64 P.f2.f0) := pO.at rfl
  have cr2 : V.cell? ⟨w.heap.size + 1, 2, none⟩ = some (.int .i64 0) := pR.at rfl
  have fr2 : V.frozen? ⟨w.heap.size + 1, 2, none⟩ = false := pR.free 2
  have co3 : V.cell? ⟨w.heap.size + 1 + 1, 3, none⟩ = some (.int .i64 P.f2.f1) := pO.at rfl
  have cr3 : V.cell? ⟨w.heap.size + 1, 3, none⟩ = some (.int .i64 0) := pR.at rfl
  have fr3 : V.frozen? ⟨w.heap.size + 1, 3, none⟩ = false := pR.free 3
  have co4 : V.cell? ⟨w.heap.size + 1 + 1, 4, none⟩ = some (.int .i64 P.f2.f2) := pO.at rfl
  have cr4 : V.cell? ⟨w.heap.size + 1, 4, none⟩ = some (.int .i64 0) := pR.at rfl
  have fr4 : V.frozen? ⟨w.heap.size + 1, 4, none⟩ = false := pR.free 4
  go_wp2
  have qF := (((((pR.set 0 (.int .i64 P.f0)).set 1 (.slice a1 P.f1.length e1)).set 2 (.int .i64 P.f2.f0)).set 3 (.int .i64 P.f2.f1)).set 4 (.int .i64 P.f2.f2))
  have g0 := qF.at (x := 0) rfl
  have g1 := qF.at (x := 1) rfl
  have g2 := qF.at (x := 2) rfl
  have g3 := qF.at (x := 3) rfl
  have g4 := qF.at (x := 4) rfl
  refine bodyPost_ret (v := (Value.agg #[.int .i64 P.f0, .slice a1 P.f1.length e1, .int .i64 P.f2.f0, .int .i64 P.f2.f1, .int .i64 P.f2.f2])) (by simp [results, Try.results22, go_sem, g0, g1, g2, g3, g4]) rfl ⟨a1, e1, rfl, (OwnD.more (OwnD.zone ho1 (lo' := 0) (hi' := w.heap.size + 3) (by (iterate 5 (refine Zone.setCell ?_ ⟨by omega, by omega⟩ _)); exact Zone.refl _ _ _) (Or.inr (by omega))) (by omega) (by simp only [gsize_set]; omega)), ?_⟩
  iterate 5 (refine Below.setCell ?_ (by dsimp only; omega) _)
  exact hBV

set_option maxHeartbeats 1600000 in
set_option maxRecDepth 100000 in
theorem gsz_Resource {lo hi : Nat} {w : World} (P : TResource) {A1 : Option Addr} {c1 : Nat} (h1 : Lies lo hi w (ints P.f1) (.slice A1 P.f1.length c1)) (hh : hi ≤ w.heap.size) (l : Int) (hl : 0 ≤ l) (hl' : l ≤ 1048576) :
    Calls Try.prog 20 #[(Value.agg #[.int .i64 P.f0, .slice A1 P.f1.length c1, .int .i64 P.f2.f0, .int .i64 P.f2.f1, .int .i64 P.f2.f2]), .int .i64 l] w fun e w' => e = .returned (.int .i64 (left l (room (ints P.f1)))) ∧ Below w.heap.size w w' := by
  obtain ⟨O1, hO1⟩ : ∃ O, O = Obj.cells #[Value.int .i64 P.f0, .slice A1 P.f1.length c1, .int .i64 P.f2.f0, .int .i64 P.f2.f1, .int .i64 P.f2.f2] 52 (0, 0) := ⟨_, rfl⟩
  have hB : Below w.heap.size w (w.alloc O1) := by repeat' (first | exact Below.refl _ _ | assumption | refine Below.setCell ?_ ?_ _ | refine Below.alloc ?_ ?_ _ | refine Gen.gbelow_drewN ?_ _ | refine Below.drew ?_ | exact Nat.le_refl _ | omega | (dsimp only; omega) | refine Gen.gle_alloc ?_ | refine Gen.gle_set ?_ | refine Gen.gle_drewN ?_ | refine Gen.gle_drew ?_)
  have qA : Blk 52 w.heap.size [Value.int .i64 P.f0, .slice A1 P.f1.length c1, .int .i64 P.f2.f0, .int .i64 P.f2.f1, .int .i64 P.f2.f2] (w.alloc O1) := by rw [hO1]; exact Blk.new _ _ w
  subst hO1
  obtain ⟨T, hT⟩ : ∃ T, left l (room (ints P.f1)) = T := ⟨_, rfl⟩
  rw [hT]
  have HT := Lib.hid hT
  clear hT
  go_enter Try.func20, Try.ntmps20
  go_wp2_with fail
  go_at_call 50
  refine Calls.mono (gsz_IntS (lo := lo) (hi := hi) (h1.under (B := w.heap.size) hB hh) (Nat.le_trans hh hB.size) l hl hl') ?_
  rintro e w1 ⟨rfl, hb⟩
  have qA := qA.below hb
  have hB := hB.trans (hb.mono hB.size)
  clear hb
  have ca0 : w1.cell? ⟨w.heap.size, 0, none⟩ = some (.int .i64 P.f0) := qA.at rfl
  have ca1 : w1.cell? ⟨w.heap.size, 1, none⟩ = some (.slice A1 P.f1.length c1) := qA.at rfl
  have ca2 : w1.cell? ⟨w.heap.size, 2, none⟩ = some (.int .i64 P.f2.f0) := qA.at rfl
  have ca3 : w1.cell? ⟨w.heap.size, 3, none⟩ = some (.int .i64 P.f2.f1) := qA.at rfl
  have ca4 : w1.cell? ⟨w.heap.size, 4, none⟩ = some (.int .i64 P.f2.f2) := qA.at rfl
  have hc1 := left_cases l (room (ints P.f1)) hl
  obtain ⟨r1, hq1⟩ : ∃ r, left l (room (ints P.f1)) = r := ⟨_, rfl⟩
  rw [hq1] at hc1 ⊢
  rcases hc1 with ⟨rfl, hs1⟩ | ⟨he1, hr1⟩
  · have hT : T = -1 := by rw [← HT.out]; exact left_none (by omega)
    go_wp2
    go_ret
    exact ⟨by first | (rw [hT]; rfl) | rfl, hB⟩
  have hd1 : decide (r1 < 0) = false := by simp; omega
  have hr1' : r1 ≤ 1048576 := by omega
  have HE1 := Lib.hid he1
  clear he1 hq1
  have hT : T = r1 := by have := HE1.out; rw [← HT.out, left_some (by omega)]; omega
  go_wp2
  go_ret
  exact ⟨by first | (rw [hT]; rfl) | rfl, hB⟩

set_option maxHeartbeats 1600000 in
set_option maxRecDepth 100000 in
theorem geq_Resource {x1 y1 x2 y2 : Nat} {w : World} (P : TResource) {A1 : Option Addr} {c1 : Nat} {B1 : Option Addr} {d1 : Nat} (h1 : Lies x1 y1 w (ints P.f1) (.slice A1 P.f1.length c1)) (k1 : Lies x2 y2 w (ints P.f1) (.slice B1 P.f1.length d1)) (s1 : y1 ≤ w.heap.size) (s2 : y2 ≤ w.heap.size) :
    Calls Try.prog 23 #[(Value.agg #[.int .i64 P.f0, .slice A1 P.f1.length c1, .int .i64 P.f2.f0, .int .i64 P.f2.f1, .int .i64 P.f2.f2]), (Value.agg #[.int .i64 P.f0, .slice B1 P.f1.length d1, .int .i64 P.f2.f0, .int .i64 P.f2.f1, .int .i64 P.f2.f2])] w fun e w' => e = .returned (.bool true) ∧ Below w.heap.size w w' := by
  obtain ⟨O1, hO1⟩ : ∃ O, O = Obj.cells #[Value.int .i64 P.f0, .slice A1 P.f1.length c1, .int .i64 P.f2.f0, .int .i64 P.f2.f1, .int .i64 P.f2.f2] 39 (0, 0) := ⟨_, rfl⟩
  obtain ⟨O2, hO2⟩ : ∃ O, O = Obj.cells #[Value.int .i64 P.f0, .slice B1 P.f1.length d1, .int .i64 P.f2.f0, .int .i64 P.f2.f1, .int .i64 P.f2.f2] 39 (0, 0) := ⟨_, rfl⟩
  have hB : Below w.heap.size w ((w.alloc O1).alloc O2) := by repeat' (first | exact Below.refl _ _ | assumption | refine Below.setCell ?_ ?_ _ | refine Below.alloc ?_ ?_ _ | refine Gen.gbelow_drewN ?_ _ | refine Below.drew ?_ | exact Nat.le_refl _ | omega | (dsimp only; omega) | refine Gen.gle_alloc ?_ | refine Gen.gle_set ?_ | refine Gen.gle_drewN ?_ | refine Gen.gle_drew ?_)
  have qA : Blk 39 w.heap.size [Value.int .i64 P.f0, .slice A1 P.f1.length c1, .int .i64 P.f2.f0, .int .i64 P.f2.f1, .int .i64 P.f2.f2] ((w.alloc O1).alloc O2) := by rw [hO1]; exact (Blk.new _ _ w).alloc _
  have qB : Blk 39 (w.heap.size + 1) [Value.int .i64 P.f0, .slice B1 P.f1.length d1, .int .i64 P.f2.f0, .int .i64 P.f2.f1, .int .i64 P.f2.f2] ((w.alloc O1).alloc O2) := by have := Blk.new 39 [Value.int .i64 P.f0, .slice B1 P.f1.length d1, .int .i64 P.f2.f0, .int .i64 P.f2.f1, .int .i64 P.f2.f2] (w.alloc O1); rw [gsize_alloc] at this; rw [hO2]; exact this
  subst hO1 hO2
  have ca0 : ((w.alloc (.cells #[Value.int .i64 P.f0, .slice A1 P.f1.length c1, .int .i64 P.f2.f0, .int .i64 P.f2.f1, .int .i64 P.f2.f2] 39)).alloc (.cells #[Value.int .i64 P.f0, .slice B1 P.f1.length d1, .int .i64 P.f2.f0, .int .i64 P.f2.f1, .int .i64 P.f2.f2] 39)).cell? ⟨w.heap.size, 0, none⟩ = some (.int .i64 P.f0) := qA.at rfl
  have cb0 : ((w.alloc (.cells #[Value.int .i64 P.f0, .slice A1 P.f1.length c1, .int .i64 P.f2.f0, .int .i64 P.f2.f1, .int .i64 P.f2.f2] 39)).alloc (.cells #[Value.int .i64 P.f0, .slice B1 P.f1.length d1, .int .i64 P.f2.f0, .int .i64 P.f2.f1, .int .i64 P.f2.f2] 39)).cell? ⟨w.heap.size + 1, 0, none⟩ = some (.int .i64 P.f0) := qB.at rfl
  have ca1 : ((w.alloc (.cells #[Value.int .i64 P.f0, .slice A1 P.f1.length c1, .int .i64 P.f2.f0, .int .i64 P.f2.f1, .int .i64 P.f2.f2] 39)).alloc (.cells #[Value.int .i64 P.f0, .slice B1 P.f1.length d1, .int .i64 P.f2.f0, .int .i64 P.f2.f1, .int .i64 P.f2.f2] 39)).cell? ⟨w.heap.size, 1, none⟩ = some (.slice A1 P.f1.length c1) := qA.at rfl
  have cb1 : ((w.alloc (.cells #[Value.int .i64 P.f0, .slice A1 P.f1.length c1, .int .i64 P.f2.f0, .int .i64 P.f2.f1, .int .i64 P.f2.f2] 39)).alloc (.cells #[Value.int .i64 P.f0, .slice B1 P.f1.length d1, .int .i64 P.f2.f0, .int .i64 P.f2.f1, .int .i64 P.f2.f2] 39)).cell? ⟨w.heap.size + 1, 1, none⟩ = some (.slice B1 P.f1.length d1) := qB.at rfl
  have ca2 : ((w.alloc (.cells #[Value.int .i64 P.f0, .slice A1 P.f1.length c1, .int .i64 P.f2.f0, .int .i64 P.f2.f1, .int .i64 P.f2.f2] 39)).alloc (.cells #[Value.int .i64 P.f0, .slice B1 P.f1.length d1, .int .i64 P.f2.f0, .int .i64 P.f2.f1, .int .i64 P.f2.f2] 39)).cell? ⟨w.heap.size, 2, none⟩ = some (.int .i64 P.f2.f0) := qA.at rfl
  have cb2 : ((w.alloc (.cells #[Value.int .i64 P.f0, .slice A1 P.f1.length c1, .int .i64 P.f2.f0, .int .i64 P.f2.f1, .int .i64 P.f2.f2] 39)).alloc (.cells #[Value.int .i64 P.f0, .slice B1 P.f1.length d1, .int .i64 P.f2.f0, .int .i64 P.f2.f1, .int .i64 P.f2.f2] 39)).cell? ⟨w.heap.size + 1, 2, none⟩ = some (.int .i64 P.f2.f0) := qB.at rfl
  have ca3 : ((w.alloc (.cells #[Value.int .i64 P.f0, .slice A1 P.f1.length c1, .int .i64 P.f2.f0, .int .i64 P.f2.f1, .int .i64 P.f2.f2] 39)).alloc (.cells #[Value.int .i64 P.f0, .slice B1 P.f1.length d1, .int .i64 P.f2.f0, .int .i64 P.f2.f1, .int .i64 P.f2.f2] 39)).cell? ⟨w.heap.size, 3, none⟩ = some (.int .i64 P.f2.f1) := qA.at rfl
  have cb3 : ((w.alloc (.cells #[Value.int .i64 P.f0, .slice A1 P.f1.length c1, .int .i64 P.f2.f0, .int .i64 P.f2.f1, .int .i64 P.f2.f2] 39)).alloc (.cells #[Value.int .i64 P.f0, .slice B1 P.f1.length d1, .int .i64 P.f2.f0, .int .i64 P.f2.f1, .int .i64 P.f2.f2] 39)).cell? ⟨w.heap.size + 1, 3, none⟩ = some (.int .i64 P.f2.f1) := qB.at rfl
  have ca4 : ((w.alloc (.cells #[Value.int .i64 P.f0, .slice A1 P.f1.length c1, .int .i64 P.f2.f0, .int .i64 P.f2.f1, .int .i64 P.f2.f2] 39)).alloc (.cells #[Value.int .i64 P.f0, .slice B1 P.f1.length d1, .int .i64 P.f2.f0, .int .i64 P.f2.f1, .int .i64 P.f2.f2] 39)).cell? ⟨w.heap.size, 4, none⟩ = some (.int .i64 P.f2.f2) := qA.at rfl
  have cb4 : ((w.alloc (.cells #[Value.int .i64 P.f0, .slice A1 P.f1.length c1, .int .i64 P.f2.f0, .int .i64 P.f2.f1, .int .i64 P.f2.f2] 39)).alloc (.cells #[Value.int .i64 P.f0, .slice B1 P.f1.length d1, .int .i64 P.f2.f0, .int .i64 P.f2.f1, .int .i64 P.f2.f2] 39)).cell? ⟨w.heap.size + 1, 4, none⟩ = some (.int .i64 P.f2.f2) := qB.at rfl
  go_enter Try.func23, Try.ntmps23
  go_wp2_with fail
  go_at_call 54
  refine Calls.mono (geq_IntS (l1 := x1) (h1 := y1) (l2 := x2) (h2 := y2) (zs := P.f1) (h1.under (B := w.heap.size) hB s1) (k1.under (B := w.heap.size) hB s2)) ?_
  rintro e w1 ⟨rfl, hb⟩
  have qA := qA.below hb
  have qB := qB.below hb
  have hB := hB.trans (hb.mono hB.size)
  clear hb
  clear ca0 cb0 ca1 cb1 ca2 cb2 ca3 cb3 ca4 cb4
  have ca0 : w1.cell? ⟨w.heap.size, 0, none⟩ = some (.int .i64 P.f0) := qA.at rfl
  have cb0 : w1.cell? ⟨w.heap.size + 1, 0, none⟩ = some (.int .i64 P.f0) := qB.at rfl
  have ca1 : w1.cell? ⟨w.heap.size, 1, none⟩ = some (.slice A1 P.f1.length c1) := qA.at rfl
  have cb1 : w1.cell? ⟨w.heap.size + 1, 1, none⟩ = some (.slice B1 P.f1.length d1) := qB.at rfl
  have ca2 : w1.cell? ⟨w.heap.size, 2, none⟩ = some (.int .i64 P.f2.f0) := qA.at rfl
  have cb2 : w1.cell? ⟨w.heap.size + 1, 2, none⟩ = some (.int .i64 P.f2.f0) := qB.at rfl
  have ca3 : w1.cell? ⟨w.heap.size, 3, none⟩ = some (.int .i64 P.f2.f1) := qA.at rfl
  have cb3 : w1.cell? ⟨w.heap.size + 1, 3, none⟩ = some (.int .i64 P.f2.f1) := qB.at rfl
  have ca4 : w1.cell? ⟨w.heap.size, 4, none⟩ = some (.int .i64 P.f2.f2) := qA.at rfl
  have cb4 : w1.cell? ⟨w.heap.size + 1, 4, none⟩ = some (.int .i64 P.f2.f2) := qB.at rfl
  go_wp2_with fail
  go_at_call 58
  refine Calls.mono (geq_Address P.f2) ?_
  rintro e w2 ⟨rfl, hb⟩
  have qA := qA.below hb
  have qB := qB.below hb
  have hB := hB.trans (hb.mono hB.size)
  clear hb
  clear ca0 cb0 ca1 cb1 ca2 cb2 ca3 cb3 ca4 cb4
  have ca0 : w2.cell? ⟨w.heap.size, 0, none⟩ = some (.int .i64 P.f0) := qA.at rfl
  have cb0 : w2.cell? ⟨w.heap.size + 1, 0, none⟩ = some (.int .i64 P.f0) := qB.at rfl
  have ca1 : w2.cell? ⟨w.heap.size, 1, none⟩ = some (.slice A1 P.f1.length c1) := qA.at rfl
  have cb1 : w2.cell? ⟨w.heap.size + 1, 1, none⟩ = some (.slice B1 P.f1.length d1) := qB.at rfl
  have ca2 : w2.cell? ⟨w.heap.size, 2, none⟩ = some (.int .i64 P.f2.f0) := qA.at rfl
  have cb2 : w2.cell? ⟨w.heap.size + 1, 2, none⟩ = some (.int .i64 P.f2.f0) := qB.at rfl
  have ca3 : w2.cell? ⟨w.heap.size, 3, none⟩ = some (.int .i64 P.f2.f1) := qA.at rfl
  have cb3 : w2.cell? ⟨w.heap.size + 1, 3, none⟩ = some (.int .i64 P.f2.f1) := qB.at rfl
  have ca4 : w2.cell? ⟨w.heap.size, 4, none⟩ = some (.int .i64 P.f2.f2) := qA.at rfl
  have cb4 : w2.cell? ⟨w.heap.size + 1, 4, none⟩ = some (.int .i64 P.f2.f2) := qB.at rfl
  go_wp2
  go_ret
  exact ⟨rfl, hB⟩

theorem infoResource : (Try.prog.info? 39).map (fun i => (i.zero, i.size, i.bytes)) = some (some (.agg #[.int .i64 0, .slice none 0 0, .int .i64 0, .int .i64 0, .int .i64 0]), 5, 56) := by kernel_rfl
theorem putL_Resource (w : World) (b o : Nat) (a0 a1 a2 a3 a4 : Value) : putL w b o [a0, a1, a2, a3, a4] = ((((w.setCell ⟨b, o, none⟩ a0).setCell ⟨b, o + 1, none⟩ a1).setCell ⟨b, o + 2, none⟩ a2).setCell ⟨b, o + 3, none⟩ a3).setCell ⟨b, o + 4, none⟩ a4 := rfl
theorem ctb_ResourceS (l : List TResource) : ct (dResource l) ≤ 64 * room (dResource l) := by
  refine ct_le_room (by omega) fun i _ => ?_
  have h1 := ct_Resource (l.getD i nResource)
  have h2 := room_Resource (l.getD i nResource)
  have h3_1 := ctb_ints (l.getD i nResource).f1
  show sumTo (fun x => ct ((l.getD i nResource).c x)) 5 ≤ 5 + 64 * sumTo (fun x => room ((l.getD i nResource).c x)) 5
  omega
theorem lies_mk_Resource {lo hi m : Nat} {w : World} {l : List TResource} {v : Value} (h : Lies lo hi w (mk m (dResource l)) v) : ∃ A c, v = .slice A l.length c := by
  obtain ⟨A, c, e, _⟩ := h; exact ⟨A, c, e⟩
end Go.Proofs.Ytagnhfalmefbhaa.Gen
