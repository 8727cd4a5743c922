/-
  A struct (Op): its cells in the words for data of any depth, and the exact laws' helpers at it.
  Conditions: what it leads to lies in memory.
-/
import Derived.Test.YtpemjlmopnndbaaDoorDatInts
import Derived.Test.YtpemjlmopnndbaaDoorBlk
import Derived.WalkKit
import Derived.Handy
import Derived.Deep.RegionHeld3
import Derived.Deep.CutBlock
import Derived.Deep.DeepCutAuto
namespace Go.Proofs.YtpemjlmopnndbaaDoor.Gen
open Go Go.RowKit Go.Proofs.YtpemjlmopnndbaaDoor.Mem

structure TOp where
  f0 : Int
  f1 : Int
  f2 : Int
  f3 : Int
def nOp : TOp := ⟨0, 0, 0, 0⟩
def TOp.c (P : TOp) : Nat → Dat
  | 0 => .int P.f0
  | 1 => .int P.f1
  | 2 => .int P.f2
  | 3 => .int P.f3
  | _ => .int 0
def dOp (l : List TOp) : Dat := .row 4 l.length fun i => (l.getD i nOp).c
/-- The cells of an element. -/
structure COp (w : World) (b o : Nat) (P : TOp)  : Prop where
  c0 : w.cell? ⟨b, o, none⟩ = some (.int .i64 P.f0)
  c1 : w.cell? ⟨b, o + 1, none⟩ = some (.int .i64 P.f1)
  c2 : w.cell? ⟨b, o + 2, none⟩ = some (.int .i64 P.f2)
  c3 : w.cell? ⟨b, o + 3, none⟩ = some (.int .i64 P.f3)
section
variable {lo hi b o : Nat} {w w' : World} {P : TOp} 
theorem COp.keep (h : COp w b o P ) (hb : w'.heap[b]? = w.heap[b]?) : COp w' b o P  :=
  ⟨by rw [Mem.cell_of_heap hb]; exact h.c0, by rw [Mem.cell_of_heap hb]; exact h.c1, by rw [Mem.cell_of_heap hb]; exact h.c2, by rw [Mem.cell_of_heap hb]; exact h.c3⟩
theorem COp.lt (h : COp w b o P ) : b < w.heap.size := Mem.cell_lt h.c0
theorem COp.below (h : COp w b o P ) (hb : Below w.heap.size w w') : COp w' b o P  := h.keep (hb.block _ h.lt)
theorem COp.all (h : COp w b o P ) : w.cell? ⟨b, o, none⟩ = some (.int .i64 P.f0) ∧ w.cell? ⟨b, o + 1, none⟩ = some (.int .i64 P.f1) ∧ w.cell? ⟨b, o + 2, none⟩ = some (.int .i64 P.f2) ∧ w.cell? ⟨b, o + 3, none⟩ = some (.int .i64 P.f3) := ⟨h.c0, h.c1, h.c2, h.c3⟩
end
theorem at_Op {lo hi : Nat} {w : World} {A : Option Addr} {n c : Nat} {l : List TOp} (h : Lies lo hi w (dOp l) (.slice A n c)) {j : Nat} (hj : j < n) :
    ∃ (b off : Nat) , A = some ⟨b, off, none⟩ ∧ lo ≤ b ∧ b < hi ∧ COp w b (off + j * 4) (l.getD j nOp)  ∧ ((Lit.int .i64 (l.getD j nOp).f0).wf = true ∧ (Lit.int .i64 (l.getD j nOp).f1).wf = true ∧ (Lit.int .i64 (l.getD j nOp).f2).wf = true ∧ (Lit.int .i64 (l.getD j nOp).f3).wf = true ∧ True) := by
  obtain ⟨A', c', e, h1, h2, h3⟩ := h
  injection e with e1 e2 e3
  subst e1 e2 e3
  obtain ⟨b, off, rfl, k1, k2, k3⟩ := h3 (by omega)
  have k4 : ∀ x, x < 4 → ∃ u, w.cell? ⟨b, off + j * 4 + x, none⟩ = some u ∧ Lies lo hi w ((l.getD j nOp).c x) u := fun x hx => k3 j hj x hx
  clear k3 h3
  obtain ⟨P, hP⟩ : ∃ P, l.getD j nOp = P := ⟨_, rfl⟩
  rw [hP] at k4 ⊢
  obtain ⟨u0, g0, q0⟩ := k4 0 (by omega)
  replace q0 : Lies lo hi w (.int P.f0) u0 := q0
  obtain ⟨rfl, w0⟩ := lies_int q0
  obtain ⟨u1, g1, q1⟩ := k4 1 (by omega)
  replace q1 : Lies lo hi w (.int P.f1) u1 := q1
  obtain ⟨rfl, w1⟩ := lies_int q1
  obtain ⟨u2, g2, q2⟩ := k4 2 (by omega)
  replace q2 : Lies lo hi w (.int P.f2) u2 := q2
  obtain ⟨rfl, w2⟩ := lies_int q2
  obtain ⟨u3, g3, q3⟩ := k4 3 (by omega)
  replace q3 : Lies lo hi w (.int P.f3) u3 := q3
  obtain ⟨rfl, w3⟩ := lies_int q3
  exact ⟨b, off, rfl, k1, k2, ⟨g0, g1, g2, g3⟩, ⟨w0, w1, w2, w3, trivial⟩⟩
theorem lies_Op {lo hi : Nat} {w : World} {l : List TOp} {v : Value} (h : Lies lo hi w (dOp l) v) : ∃ A c, v = .slice A l.length c := by
  obtain ⟨A, c, e, _⟩ := h; exact ⟨A, c, e⟩
theorem room_Op (P : TOp) : sumTo (fun x => room (P.c x)) 4 = 0 := by
  first | (simp [sumTo, TOp.c, room]; done) | (simp [sumTo, TOp.c, room]; omega)
theorem ct_Op (P : TOp) : sumTo (fun x => ct (P.c x)) 4 = 4 := by
  first | (simp [sumTo, TOp.c, ct]; done) | (simp [sumTo, TOp.c, ct]; omega)

theorem putL_Op (w : World) (b o : Nat) (a0 a1 a2 a3 : Value) : putL w b o [a0, a1, a2, a3] = (((w.setCell ⟨b, o, none⟩ a0).setCell ⟨b, o + 1, none⟩ a1).setCell ⟨b, o + 2, none⟩ a2).setCell ⟨b, o + 3, none⟩ a3 := rfl
theorem ctb_OpS (l : List TOp) : ct (dOp l) ≤ 64 * room (dOp l) := by
  refine ct_le_room (by omega) fun i _ => ?_
  have h1 := ct_Op (l.getD i nOp)
  have h2 := room_Op (l.getD i nOp)
  show sumTo (fun x => ct ((l.getD i nOp).c x)) 4 ≤ 4 + 64 * sumTo (fun x => room ((l.getD i nOp).c x)) 4
  omega
theorem lies_mk_Op {lo hi m : Nat} {w : World} {l : List TOp} {v : Value} (h : Lies lo hi w (mk m (dOp l)) v) : ∃ A c, v = .slice A l.length c := by
  obtain ⟨A, c, e, _⟩ := h; exact ⟨A, c, e⟩
end Go.Proofs.YtpemjlmopnndbaaDoor.Gen
