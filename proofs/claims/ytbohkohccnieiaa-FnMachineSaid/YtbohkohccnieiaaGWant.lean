/-
  A struct (Want): its cells in the words for data of any depth, and the exact laws' helpers at it.
  Conditions: what it leads to lies in memory.
-/
import Derived.Test.YtbohkohccnieiaaDatInts
import Derived.Test.YtbohkohccnieiaaBlk
import Derived.Test.YtbohkohccnieiaaGAddress
import Derived.WalkKit
import Derived.Handy
import Derived.Deep.RegionHeld3
import Derived.Deep.CutBlock
import Derived.Deep.DeepCutAuto
namespace Go.Proofs.Ytbohkohccnieiaa.Gen
open Go Go.RowKit Go.Proofs.Ytbohkohccnieiaa.Mem

structure TWant where
  f0 : Int
  f1 : TAddress
def nWant : TWant := ⟨0, nAddress⟩
def TWant.c (P : TWant) : Nat → Dat
  | 0 => .int P.f0
  | 1 => .int P.f1.f0
  | 2 => .int P.f1.f1
  | 3 => .int P.f1.f2
  | _ => .int 0
def dWant (l : List TWant) : Dat := .row 4 l.length fun i => (l.getD i nWant).c
/-- The cells of an element. -/
structure CWant (w : World) (b o : Nat) (P : TWant)  : Prop where
  c0 : w.cell? ⟨b, o, none⟩ = some (.int .i64 P.f0)
  c1 : w.cell? ⟨b, o + 1, none⟩ = some (.int .i64 P.f1.f0)
  c2 : w.cell? ⟨b, o + 2, none⟩ = some (.int .i64 P.f1.f1)
  c3 : w.cell? ⟨b, o + 3, none⟩ = some (.int .i64 P.f1.f2)
section
variable {lo hi b o : Nat} {w w' : World} {P : TWant} 
theorem CWant.keep (h : CWant w b o P ) (hb : w'.heap[b]? = w.heap[b]?) : CWant w' b o P  :=
  ⟨by rw [Mem.cell_of_heap hb]; exact h.c0, by rw [Mem.cell_of_heap hb]; exact h.c1, by rw [Mem.cell_of_heap hb]; exact h.c2, by rw [Mem.cell_of_heap hb]; exact h.c3⟩
theorem CWant.lt (h : CWant w b o P ) : b < w.heap.size := Mem.cell_lt h.c0
theorem CWant.below (h : CWant w b o P ) (hb : Below w.heap.size w w') : CWant w' b o P  := h.keep (hb.block _ h.lt)
theorem CWant.all (h : CWant w b o P ) : w.cell? ⟨b, o, none⟩ = some (.int .i64 P.f0) ∧ w.cell? ⟨b, o + 1, none⟩ = some (.int .i64 P.f1.f0) ∧ w.cell? ⟨b, o + 2, none⟩ = some (.int .i64 P.f1.f1) ∧ w.cell? ⟨b, o + 3, none⟩ = some (.int .i64 P.f1.f2) := ⟨h.c0, h.c1, h.c2, h.c3⟩
end
theorem at_Want {lo hi : Nat} {w : World} {A : Option Addr} {n c : Nat} {l : List TWant} (h : Lies lo hi w (dWant l) (.slice A n c)) {j : Nat} (hj : j < n) :
    ∃ (b off : Nat) , A = some ⟨b, off, none⟩ ∧ lo ≤ b ∧ b < hi ∧ CWant w b (off + j * 4) (l.getD j nWant)  ∧ ((Lit.int .i64 (l.getD j nWant).f0).wf = true ∧ (Lit.int .i64 (l.getD j nWant).f1.f0).wf = true ∧ (Lit.int .i64 (l.getD j nWant).f1.f1).wf = true ∧ (Lit.int .i64 (l.getD j nWant).f1.f2).wf = true ∧ True) := by
  obtain ⟨A', c', e, h1, h2, h3⟩ := h
  injection e with e1 e2 e3
  subst e1 e2 e3
  obtain ⟨b, off, rfl, k1, k2, k3⟩ := h3 (by omega)
  have k4 : ∀ x, x < 4 → ∃ u, w.cell? ⟨b, off + j * 4 + x, none⟩ = some u ∧ Lies lo hi w ((l.getD j nWant).c x) u := fun x hx => k3 j hj x hx
  clear k3 h3
  obtain ⟨P, hP⟩ : ∃ P, l.getD j nWant = P := ⟨_, rfl⟩
  rw [hP] at k4 ⊢
  obtain ⟨u0, g0, q0⟩ := k4 0 (by omega)
  replace q0 : Lies lo hi w (.int P.f0) u0 := q0
  obtain ⟨rfl, w0⟩ := lies_int q0
  obtain ⟨u1, g1, q1⟩ := k4 1 (by omega)
  replace q1 : Lies lo hi w (.int P.f1.f0) u1 := q1
  obtain ⟨rfl, w1⟩ := lies_int q1
  obtain ⟨u2, g2, q2⟩ := k4 2 (by omega)
  replace q2 : Lies lo hi w (.int P.f1.f1) u2 := q2
  obtain ⟨rfl, w2⟩ := lies_int q2
  obtain ⟨u3, g3, q3⟩ := k4 3 (by omega)
  replace q3 : Lies lo hi w (.int P.f1.f2) u3 := q3
  obtain ⟨rfl, w3⟩ := lies_int q3
  exact ⟨b, off, rfl, k1, k2, ⟨g0, g1, g2, g3⟩, ⟨w0, w1, w2, w3, trivial⟩⟩
theorem lies_Want {lo hi : Nat} {w : World} {l : List TWant} {v : Value} (h : Lies lo hi w (dWant l) v) : ∃ A c, v = .slice A l.length c := by
  obtain ⟨A, c, e, _⟩ := h; exact ⟨A, c, e⟩
theorem room_Want (P : TWant) : sumTo (fun x => room (P.c x)) 4 = 0 := by
  first | (simp [sumTo, TWant.c, room]; done) | (simp [sumTo, TWant.c, room]; omega)
theorem ct_Want (P : TWant) : sumTo (fun x => ct (P.c x)) 4 = 4 := by
  first | (simp [sumTo, TWant.c, ct]; done) | (simp [sumTo, TWant.c, ct]; omega)

set_option maxHeartbeats 1600000 in
set_option maxRecDepth 100000 in
theorem geq_Want {w : World} (P : TWant)    :
    Calls Try.prog 31 #[(Value.agg #[.int .i64 P.f0, .int .i64 P.f1.f0, .int .i64 P.f1.f1, .int .i64 P.f1.f2]), (Value.agg #[.int .i64 P.f0, .int .i64 P.f1.f0, .int .i64 P.f1.f1, .int .i64 P.f1.f2])] w fun e w' => e = .returned (.bool true) ∧ Below w.heap.size w w' := by
  obtain ⟨O1, hO1⟩ : ∃ O, O = Obj.cells #[Value.int .i64 P.f0, .int .i64 P.f1.f0, .int .i64 P.f1.f1, .int .i64 P.f1.f2] 34 (0, 0) := ⟨_, rfl⟩
  obtain ⟨O2, hO2⟩ : ∃ O, O = Obj.cells #[Value.int .i64 P.f0, .int .i64 P.f1.f0, .int .i64 P.f1.f1, .int .i64 P.f1.f2] 34 (0, 0) := ⟨_, rfl⟩
  have hB : Below w.heap.size w ((w.alloc O1).alloc O2) := by repeat' (first | exact Below.refl _ _ | assumption | refine Below.setCell ?_ ?_ _ | refine Below.alloc ?_ ?_ _ | refine Gen.gbelow_drewN ?_ _ | refine Below.drew ?_ | exact Nat.le_refl _ | omega | (dsimp only; omega) | refine Gen.gle_alloc ?_ | refine Gen.gle_set ?_ | refine Gen.gle_drewN ?_ | refine Gen.gle_drew ?_)
  have qA : Blk 34 w.heap.size [Value.int .i64 P.f0, .int .i64 P.f1.f0, .int .i64 P.f1.f1, .int .i64 P.f1.f2] ((w.alloc O1).alloc O2) := by rw [hO1]; exact (Blk.new _ _ w).alloc _
  have qB : Blk 34 (w.heap.size + 1) [Value.int .i64 P.f0, .int .i64 P.f1.f0, .int .i64 P.f1.f1, .int .i64 P.f1.f2] ((w.alloc O1).alloc O2) := by have := Blk.new 34 [Value.int .i64 P.f0, .int .i64 P.f1.f0, .int .i64 P.f1.f1, .int .i64 P.f1.f2] (w.alloc O1); rw [gsize_alloc] at this; rw [hO2]; exact this
  subst hO1 hO2
  have ca0 : ((w.alloc (.cells #[Value.int .i64 P.f0, .int .i64 P.f1.f0, .int .i64 P.f1.f1, .int .i64 P.f1.f2] 34)).alloc (.cells #[Value.int .i64 P.f0, .int .i64 P.f1.f0, .int .i64 P.f1.f1, .int .i64 P.f1.f2] 34)).cell? ⟨w.heap.size, 0, none⟩ = some (.int .i64 P.f0) := qA.at rfl
  have cb0 : ((w.alloc (.cells #[Value.int .i64 P.f0, .int .i64 P.f1.f0, .int .i64 P.f1.f1, .int .i64 P.f1.f2] 34)).alloc (.cells #[Value.int .i64 P.f0, .int .i64 P.f1.f0, .int .i64 P.f1.f1, .int .i64 P.f1.f2] 34)).cell? ⟨w.heap.size + 1, 0, none⟩ = some (.int .i64 P.f0) := qB.at rfl
  have ca1 : ((w.alloc (.cells #[Value.int .i64 P.f0, .int .i64 P.f1.f0, .int .i64 P.f1.f1, .int .i64 P.f1.f2] 34)).alloc (.cells #[Value.int .i64 P.f0, .int .i64 P.f1.f0, .int .i64 P.f1.f1, .int .i64 P.f1.f2] 34)).cell? ⟨w.heap.size, 1, none⟩ = some (.int .i64 P.f1.f0) := qA.at rfl
  have cb1 : ((w.alloc (.cells #[Value.int .i64 P.f0, .int .i64 P.f1.f0, .int .i64 P.f1.f1, .int .i64 P.f1.f2] 34)).alloc (.cells #[Value.int .i64 P.f0, .int .i64 P.f1.f0, .int .i64 P.f1.f1, .int .i64 P.f1.f2] 34)).cell? ⟨w.heap.size + 1, 1, none⟩ = some (.int .i64 P.f1.f0) := qB.at rfl
  have ca2 : ((w.alloc (.cells #[Value.int .i64 P.f0, .int .i64 P.f1.f0, .int .i64 P.f1.f1, .int .i64 P.f1.f2] 34)).alloc (.cells #[Value.int .i64 P.f0, .int .i64 P.f1.f0, .int .i64 P.f1.f1, .int .i64 P.f1.f2] 34)).cell? ⟨w.heap.size, 2, none⟩ = some (.int .i64 P.f1.f1) := qA.at rfl
  have cb2 : ((w.alloc (.cells #[Value.int .i64 P.f0, .int .i64 P.f1.f0, .int .i64 P.f1.f1, .int .i64 P.f1.f2] 34)).alloc (.cells #[Value.int .i64 P.f0, .int .i64 P.f1.f0, .int .i64 P.f1.f1, .int .i64 P.f1.f2] 34)).cell? ⟨w.heap.size + 1, 2, none⟩ = some (.int .i64 P.f1.f1) := qB.at rfl
  have ca3 : ((w.alloc (.cells #[Value.int .i64 P.f0, .int .i64 P.f1.f0, .int .i64 P.f1.f1, .int .i64 P.f1.f2] 34)).alloc (.cells #[Value.int .i64 P.f0, .int .i64 P.f1.f0, .int .i64 P.f1.f1, .int .i64 P.f1.f2] 34)).cell? ⟨w.heap.size, 3, none⟩ = some (.int .i64 P.f1.f2) := qA.at rfl
  have cb3 : ((w.alloc (.cells #[Value.int .i64 P.f0, .int .i64 P.f1.f0, .int .i64 P.f1.f1, .int .i64 P.f1.f2] 34)).alloc (.cells #[Value.int .i64 P.f0, .int .i64 P.f1.f0, .int .i64 P.f1.f1, .int .i64 P.f1.f2] 34)).cell? ⟨w.heap.size + 1, 3, none⟩ = some (.int .i64 P.f1.f2) := qB.at rfl
  go_enter Try.func31, Try.ntmps31
  go_wp2_with fail
  go_at_call 63
  refine Calls.mono (geq_Address P.f1) ?_
  rintro e w1 ⟨rfl, hb⟩
  have qA := qA.below hb
  have qB := qB.below hb
  have hB := hB.trans (hb.mono hB.size)
  clear hb
  clear ca0 cb0 ca1 cb1 ca2 cb2 ca3 cb3
  have ca0 : w1.cell? ⟨w.heap.size, 0, none⟩ = some (.int .i64 P.f0) := qA.at rfl
  have cb0 : w1.cell? ⟨w.heap.size + 1, 0, none⟩ = some (.int .i64 P.f0) := qB.at rfl
  have ca1 : w1.cell? ⟨w.heap.size, 1, none⟩ = some (.int .i64 P.f1.f0) := qA.at rfl
  have cb1 : w1.cell? ⟨w.heap.size + 1, 1, none⟩ = some (.int .i64 P.f1.f0) := qB.at rfl
  have ca2 : w1.cell? ⟨w.heap.size, 2, none⟩ = some (.int .i64 P.f1.f1) := qA.at rfl
  have cb2 : w1.cell? ⟨w.heap.size + 1, 2, none⟩ = some (.int .i64 P.f1.f1) := qB.at rfl
  have ca3 : w1.cell? ⟨w.heap.size, 3, none⟩ = some (.int .i64 P.f1.f2) := qA.at rfl
  have cb3 : w1.cell? ⟨w.heap.size + 1, 3, none⟩ = some (.int .i64 P.f1.f2) := qB.at rfl
  go_wp2
  go_ret
  exact ⟨rfl, hB⟩

theorem infoWant : (Try.prog.info? 34).map (fun i => (i.zero, i.size, i.bytes)) = some (some (.agg #[.int .i64 0, .int .i64 0, .int .i64 0, .int .i64 0]), 4, 32) := by kernel_rfl
theorem putL_Want (w : World) (b o : Nat) (a0 a1 a2 a3 : Value) : putL w b o [a0, a1, a2, a3] = (((w.setCell ⟨b, o, none⟩ a0).setCell ⟨b, o + 1, none⟩ a1).setCell ⟨b, o + 2, none⟩ a2).setCell ⟨b, o + 3, none⟩ a3 := rfl
theorem ctb_WantS (l : List TWant) : ct (dWant l) ≤ 64 * room (dWant l) := by
  refine ct_le_room (by omega) fun i _ => ?_
  have h1 := ct_Want (l.getD i nWant)
  have h2 := room_Want (l.getD i nWant)
  show sumTo (fun x => ct ((l.getD i nWant).c x)) 4 ≤ 4 + 64 * sumTo (fun x => room ((l.getD i nWant).c x)) 4
  omega
theorem lies_mk_Want {lo hi m : Nat} {w : World} {l : List TWant} {v : Value} (h : Lies lo hi w (mk m (dWant l)) v) : ∃ A c, v = .slice A l.length c := by
  obtain ⟨A, c, e, _⟩ := h; exact ⟨A, c, e⟩
end Go.Proofs.Ytbohkohccnieiaa.Gen
