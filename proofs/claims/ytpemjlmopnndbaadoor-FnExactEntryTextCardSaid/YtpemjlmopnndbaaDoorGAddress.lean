/-
  A struct (Address): its cells in the words for data of any depth, and the exact laws' helpers at it.
  Conditions: what it leads to lies in memory.
-/
import Derived.Test.YtpemjlmopnndbaaDoorDatInts
import Derived.Test.YtpemjlmopnndbaaDoorBlk
import Derived.WalkKit
import Derived.Handy
import Derived.Deep.RegionHeld3
import Derived.Deep.CutBlock
import Derived.Deep.DeepCutAuto
namespace Go.Proofs.YtpemjlmopnndbaaDoor.Gen
open Go Go.RowKit Go.Proofs.YtpemjlmopnndbaaDoor.Mem

structure TAddress where
  f0 : Int
  f1 : Int
  f2 : Int
def nAddress : TAddress := ⟨0, 0, 0⟩
def TAddress.c (P : TAddress) : Nat → Dat
  | 0 => .int P.f0
  | 1 => .int P.f1
  | 2 => .int P.f2
  | _ => .int 0
def dAddress (l : List TAddress) : Dat := .row 3 l.length fun i => (l.getD i nAddress).c
/-- The cells of an element. -/
structure CAddress (w : World) (b o : Nat) (P : TAddress)  : Prop where
  c0 : w.cell? ⟨b, o, none⟩ = some (.int .i64 P.f0)
  c1 : w.cell? ⟨b, o + 1, none⟩ = some (.int .i64 P.f1)
  c2 : w.cell? ⟨b, o + 2, none⟩ = some (.int .i64 P.f2)
section
variable {lo hi b o : Nat} {w w' : World} {P : TAddress} 
theorem CAddress.keep (h : CAddress w b o P ) (hb : w'.heap[b]? = w.heap[b]?) : CAddress w' b o P  :=
  ⟨by rw [Mem.cell_of_heap hb]; exact h.c0, by rw [Mem.cell_of_heap hb]; exact h.c1, by rw [Mem.cell_of_heap hb]; exact h.c2⟩
theorem CAddress.lt (h : CAddress w b o P ) : b < w.heap.size := Mem.cell_lt h.c0
theorem CAddress.below (h : CAddress w b o P ) (hb : Below w.heap.size w w') : CAddress w' b o P  := h.keep (hb.block _ h.lt)
theorem CAddress.all (h : CAddress w b o P ) : w.cell? ⟨b, o, none⟩ = some (.int .i64 P.f0) ∧ w.cell? ⟨b, o + 1, none⟩ = some (.int .i64 P.f1) ∧ w.cell? ⟨b, o + 2, none⟩ = some (.int .i64 P.f2) := ⟨h.c0, h.c1, h.c2⟩
end
theorem at_Address {lo hi : Nat} {w : World} {A : Option Addr} {n c : Nat} {l : List TAddress} (h : Lies lo hi w (dAddress l) (.slice A n c)) {j : Nat} (hj : j < n) :
    ∃ (b off : Nat) , A = some ⟨b, off, none⟩ ∧ lo ≤ b ∧ b < hi ∧ CAddress w b (off + j * 3) (l.getD j nAddress)  ∧ ((Lit.int .i64 (l.getD j nAddress).f0).wf = true ∧ (Lit.int .i64 (l.getD j nAddress).f1).wf = true ∧ (Lit.int .i64 (l.getD j nAddress).f2).wf = true ∧ True) := by
  obtain ⟨A', c', e, h1, h2, h3⟩ := h
  injection e with e1 e2 e3
  subst e1 e2 e3
  obtain ⟨b, off, rfl, k1, k2, k3⟩ := h3 (by omega)
  have k4 : ∀ x, x < 3 → ∃ u, w.cell? ⟨b, off + j * 3 + x, none⟩ = some u ∧ Lies lo hi w ((l.getD j nAddress).c x) u := fun x hx => k3 j hj x hx
  clear k3 h3
  obtain ⟨P, hP⟩ : ∃ P, l.getD j nAddress = P := ⟨_, rfl⟩
  rw [hP] at k4 ⊢
  obtain ⟨u0, g0, q0⟩ := k4 0 (by omega)
  replace q0 : Lies lo hi w (.int P.f0) u0 := q0
  obtain ⟨rfl, w0⟩ := lies_int q0
  obtain ⟨u1, g1, q1⟩ := k4 1 (by omega)
  replace q1 : Lies lo hi w (.int P.f1) u1 := q1
  obtain ⟨rfl, w1⟩ := lies_int q1
  obtain ⟨u2, g2, q2⟩ := k4 2 (by omega)
  replace q2 : Lies lo hi w (.int P.f2) u2 := q2
  obtain ⟨rfl, w2⟩ := lies_int q2
  exact ⟨b, off, rfl, k1, k2, ⟨g0, g1, g2⟩, ⟨w0, w1, w2, trivial⟩⟩
theorem lies_Address {lo hi : Nat} {w : World} {l : List TAddress} {v : Value} (h : Lies lo hi w (dAddress l) v) : ∃ A c, v = .slice A l.length c := by
  obtain ⟨A, c, e, _⟩ := h; exact ⟨A, c, e⟩
theorem room_Address (P : TAddress) : sumTo (fun x => room (P.c x)) 3 = 0 := by
  first | (simp [sumTo, TAddress.c, room]; done) | (simp [sumTo, TAddress.c, room]; omega)
theorem ct_Address (P : TAddress) : sumTo (fun x => ct (P.c x)) 3 = 3 := by
  first | (simp [sumTo, TAddress.c, ct]; done) | (simp [sumTo, TAddress.c, ct]; omega)

set_option maxHeartbeats 1600000 in
set_option maxRecDepth 100000 in
theorem gto_Address {w : World} (P : TAddress)  :
    Calls Tryd.prog 11 #[(Value.agg #[.int .i64 P.f0, .int .i64 P.f1, .int .i64 P.f2])] w fun e w' => e = .returned (Value.agg #[.int .i64 P.f0, .int .i64 P.f1, .int .i64 P.f2]) ∧ Below w.heap.size w w' := by
  go_enter Tryd.func11, Tryd.ntmps11
  go_wp2
  refine bodyPost_ret (v := (Value.agg #[.int .i64 P.f0, .int .i64 P.f1, .int .i64 P.f2])) (by simp [results, Tryd.results11, go_sem]) rfl ⟨rfl, ?_⟩
  repeat' (first | exact Below.refl _ _ | assumption | refine Below.setCell ?_ ?_ _ | refine Below.alloc ?_ ?_ _ | refine Gen.gbelow_drewN ?_ _ | refine Below.drew ?_ | exact Nat.le_refl _ | omega | (dsimp only; omega) | refine Gen.gle_alloc ?_ | refine Gen.gle_set ?_ | refine Gen.gle_drewN ?_ | refine Gen.gle_drew ?_)


theorem infoAddress : (Tryd.prog.info? 27).map (fun i => (i.zero, i.size, i.bytes)) = some (some (.agg #[.int .i64 0, .int .i64 0, .int .i64 0]), 3, 24) := by kernel_rfl
theorem putL_Address (w : World) (b o : Nat) (a0 a1 a2 : Value) : putL w b o [a0, a1, a2] = ((w.setCell ⟨b, o, none⟩ a0).setCell ⟨b, o + 1, none⟩ a1).setCell ⟨b, o + 2, none⟩ a2 := rfl
theorem ctb_AddressS (l : List TAddress) : ct (dAddress l) ≤ 64 * room (dAddress l) := by
  refine ct_le_room (by omega) fun i _ => ?_
  have h1 := ct_Address (l.getD i nAddress)
  have h2 := room_Address (l.getD i nAddress)
  show sumTo (fun x => ct ((l.getD i nAddress).c x)) 3 ≤ 3 + 64 * sumTo (fun x => room ((l.getD i nAddress).c x)) 3
  omega
theorem lies_mk_Address {lo hi m : Nat} {w : World} {l : List TAddress} {v : Value} (h : Lies lo hi w (mk m (dAddress l)) v) : ∃ A c, v = .slice A l.length c := by
  obtain ⟨A, c, e, _⟩ := h; exact ⟨A, c, e⟩
end Go.Proofs.YtpemjlmopnndbaaDoor.Gen
