/-
  A struct (Op): its cells in the words for data of any depth, and the exact laws' helpers at it.
  Conditions: what it leads to lies in memory.
-/
import Derived.Test.YtbohkohccnieiaaDatInts
import Derived.Test.YtbohkohccnieiaaBlk
import Derived.WalkKit
import Derived.Handy
import Derived.Deep.RegionHeld3
import Derived.Deep.CutBlock
import Derived.Deep.DeepCutAuto
namespace Go.Proofs.Ytbohkohccnieiaa.Gen
open Go Go.RowKit Go.Proofs.Ytbohkohccnieiaa.Mem

structure TOp where
  f0 : Int
  f1 : Int
  f2 : Int
  f3 : Int
def nOp : TOp := ⟨0, 0, 0, 0⟩
def TOp.c (P : TOp) : Nat → Dat
  | 0 => .int P.f0
  | 1 => .int P.f1
  | 2 => .int P.f2
  | 3 => .int P.f3
  | _ => .int 0
def dOp (l : List TOp) : Dat := .row 4 l.length fun i => (l.getD i nOp).c
/-- The cells of an element. -/
structure COp (w : World) (b o : Nat) (P : TOp)  : Prop where
  c0 : w.cell? ⟨b, o, none⟩ = some (.int .i64 P.f0)
  c1 : w.cell? ⟨b, o + 1, none⟩ = some (.int .i64 P.f1)
  c2 : w.cell? ⟨b, o + 2, none⟩ = some (.int .i64 P.f2)
  c3 : w.cell? ⟨b, o + 3, none⟩ = some (.int .i64 P.f3)
section
variable {lo hi b o : Nat} {w w' : World} {P : TOp} 
theorem COp.keep (h : COp w b o P ) (hb : w'.heap[b]? = w.heap[b]?) : COp w' b o P  :=
  ⟨by rw [Mem.cell_of_heap hb]; exact h.c0, by rw [Mem.cell_of_heap hb]; exact h.c1, by rw [Mem.cell_of_heap hb]; exact h.c2, by rw [Mem.cell_of_heap hb]; exact h.c3⟩
theorem COp.lt (h : COp w b o P ) : b < w.heap.size := Mem.cell_lt h.c0
theorem COp.below (h : COp w b o P ) (hb : Below w.heap.size w w') : COp w' b o P  := h.keep (hb.block _ h.lt)
theorem COp.all (h : COp w b o P ) : w.cell? ⟨b, o, none⟩ = some (.int .i64 P.f0) ∧ w.cell? ⟨b, o + 1, none⟩ = some (.int .i64 P.f1) ∧ w.cell? ⟨b, o + 2, none⟩ = some (.int .i64 P.f2) ∧ w.cell? ⟨b, o + 3, none⟩ = some (.int .i64 P.f3) := ⟨h.c0, h.c1, h.c2, h.c3⟩
end
theorem at_Op {lo hi : Nat} {w : World} {A : Option Addr} {n c : Nat} {l : List TOp} (h : Lies lo hi w (dOp l) (.slice A n c)) {j : Nat} (hj : j < n) :
    ∃ (b off : Nat) , A = some ⟨b, off, none⟩ ∧ lo ≤ b ∧ b < hi ∧ COp w b (off + j * 4) (l.getD j nOp)  ∧ ((Lit.int .i64 (l.getD j nOp).f0).wf = true ∧ (Lit.int .i64 (l.getD j nOp).f1).wf = true ∧ (Lit.int .i64 (l.getD j nOp).f2).wf = true ∧ (Lit.int .i64 (l.getD j nOp).f3).wf = true ∧ True) := by
  obtain ⟨A', c', e, h1, h2, h3⟩ := h
  injection e with e1 e2 e3
  subst e1 e2 e3
  obtain ⟨b, off, rfl, k1, k2, k3⟩ := h3 (by omega)
  have k4 : ∀ x, x < 4 → ∃ u, w.cell? ⟨b, off + j * 4 + x, none⟩ = some u ∧ Lies lo hi w ((l.getD j nOp).c x) u := fun x hx => k3 j hj x hx
  clear k3 h3
  obtain ⟨P, hP⟩ : ∃ P, l.getD j nOp = P := ⟨_, rfl⟩
  rw [hP] at k4 ⊢
  obtain ⟨u0, g0, q0⟩ := k4 0 (by omega)
  replace q0 : Lies lo hi w (.int P.f0) u0 := q0
  obtain ⟨rfl, w0⟩ := lies_int q0
  obtain ⟨u1, g1, q1⟩ := k4 1 (by omega)
  replace q1 : Lies lo hi w (.int P.f1) u1 := q1
  obtain ⟨rfl, w1⟩ := lies_int q1
  obtain ⟨u2, g2, q2⟩ := k4 2 (by omega)
  replace q2 : Lies lo hi w (.int P.f2) u2 := q2
  obtain ⟨rfl, w2⟩ := lies_int q2
  obtain ⟨u3, g3, q3⟩ := k4 3 (by omega)
  replace q3 : Lies lo hi w (.int P.f3) u3 := q3
  obtain ⟨rfl, w3⟩ := lies_int q3
  exact ⟨b, off, rfl, k1, k2, ⟨g0, g1, g2, g3⟩, ⟨w0, w1, w2, w3, trivial⟩⟩
theorem lies_Op {lo hi : Nat} {w : World} {l : List TOp} {v : Value} (h : Lies lo hi w (dOp l) v) : ∃ A c, v = .slice A l.length c := by
  obtain ⟨A, c, e, _⟩ := h; exact ⟨A, c, e⟩
theorem room_Op (P : TOp) : sumTo (fun x => room (P.c x)) 4 = 0 := by
  first | (simp [sumTo, TOp.c, room]; done) | (simp [sumTo, TOp.c, room]; omega)
theorem ct_Op (P : TOp) : sumTo (fun x => ct (P.c x)) 4 = 4 := by
  first | (simp [sumTo, TOp.c, ct]; done) | (simp [sumTo, TOp.c, ct]; omega)

set_option maxHeartbeats 1600000 in
set_option maxRecDepth 100000 in
theorem gto_Op {w : World} (P : TOp)  :
    Calls Try.prog 62 #[(Value.agg #[.int .i64 P.f0, .int .i64 P.f1, .int .i64 P.f2, .int .i64 P.f3])] w fun e w' => e = .returned (Value.agg #[.int .i64 P.f0, .int .i64 P.f1, .int .i64 P.f2, .int .i64 P.f3]) ∧ Below w.heap.size w w' := by
  go_enter Try.func62, Try.ntmps62
  go_wp2
  refine bodyPost_ret (v := (Value.agg #[.int .i64 P.f0, .int .i64 P.f1, .int .i64 P.f2, .int .i64 P.f3])) (by simp [results, Try.results62, go_sem]) rfl ⟨rfl, ?_⟩
  repeat' (first | exact Below.refl _ _ | assumption | refine Below.setCell ?_ ?_ _ | refine Below.alloc ?_ ?_ _ | refine Gen.gbelow_drewN ?_ _ | refine Below.drew ?_ | exact Nat.le_refl _ | omega | (dsimp only; omega) | refine Gen.gle_alloc ?_ | refine Gen.gle_set ?_ | refine Gen.gle_drewN ?_ | refine Gen.gle_drew ?_)


set_option maxHeartbeats 1600000 in
set_option maxRecDepth 100000 in
theorem geq_Op {w : World} (P : TOp)    :
    Calls Try.prog 64 #[(Value.agg #[.int .i64 P.f0, .int .i64 P.f1, .int .i64 P.f2, .int .i64 P.f3]), (Value.agg #[.int .i64 P.f0, .int .i64 P.f1, .int .i64 P.f2, .int .i64 P.f3])] w fun e w' => e = .returned (.bool true) ∧ Below w.heap.size w w' := by
  obtain ⟨O1, hO1⟩ : ∃ O, O = Obj.cells #[Value.int .i64 P.f0, .int .i64 P.f1, .int .i64 P.f2, .int .i64 P.f3] 71 (0, 0) := ⟨_, rfl⟩
  obtain ⟨O2, hO2⟩ : ∃ O, O = Obj.cells #[Value.int .i64 P.f0, .int .i64 P.f1, .int .i64 P.f2, .int .i64 P.f3] 71 (0, 0) := ⟨_, rfl⟩
  have hB : Below w.heap.size w ((w.alloc O1).alloc O2) := by repeat' (first | exact Below.refl _ _ | assumption | refine Below.setCell ?_ ?_ _ | refine Below.alloc ?_ ?_ _ | refine Gen.gbelow_drewN ?_ _ | refine Below.drew ?_ | exact Nat.le_refl _ | omega | (dsimp only; omega) | refine Gen.gle_alloc ?_ | refine Gen.gle_set ?_ | refine Gen.gle_drewN ?_ | refine Gen.gle_drew ?_)
  have qA : Blk 71 w.heap.size [Value.int .i64 P.f0, .int .i64 P.f1, .int .i64 P.f2, .int .i64 P.f3] ((w.alloc O1).alloc O2) := by rw [hO1]; exact (Blk.new _ _ w).alloc _
  have qB : Blk 71 (w.heap.size + 1) [Value.int .i64 P.f0, .int .i64 P.f1, .int .i64 P.f2, .int .i64 P.f3] ((w.alloc O1).alloc O2) := by have := Blk.new 71 [Value.int .i64 P.f0, .int .i64 P.f1, .int .i64 P.f2, .int .i64 P.f3] (w.alloc O1); rw [gsize_alloc] at this; rw [hO2]; exact this
  subst hO1 hO2
  have ca0 : ((w.alloc (.cells #[Value.int .i64 P.f0, .int .i64 P.f1, .int .i64 P.f2, .int .i64 P.f3] 71)).alloc (.cells #[Value.int .i64 P.f0, .int .i64 P.f1, .int .i64 P.f2, .int .i64 P.f3] 71)).cell? ⟨w.heap.size, 0, none⟩ = some (.int .i64 P.f0) := qA.at rfl
  have cb0 : ((w.alloc (.cells #[Value.int .i64 P.f0, .int .i64 P.f1, .int .i64 P.f2, .int .i64 P.f3] 71)).alloc (.cells #[Value.int .i64 P.f0, .int .i64 P.f1, .int .i64 P.f2, .int .i64 P.f3] 71)).cell? ⟨w.heap.size + 1, 0, none⟩ = some (.int .i64 P.f0) := qB.at rfl
  have ca1 : ((w.alloc (.cells #[Value.int .i64 P.f0, .int .i64 P.f1, .int .i64 P.f2, .int .i64 P.f3] 71)).alloc (.cells #[Value.int .i64 P.f0, .int .i64 P.f1, .int .i64 P.f2, .int .i64 P.f3] 71)).cell? ⟨w.heap.size, 1, none⟩ = some (.int .i64 P.f1) := qA.at rfl
  have cb1 : ((w.alloc (.cells #[Value.int .i64 P.f0, .int .i64 P.f1, .int .i64 P.f2, .int .i64 P.f3] 71)).alloc (.cells #[Value.int .i64 P.f0, .int .i64 P.f1, .int .i64 P.f2, .int .i64 P.f3] 71)).cell? ⟨w.heap.size + 1, 1, none⟩ = some (.int .i64 P.f1) := qB.at rfl
  have ca2 : ((w.alloc (.cells #[Value.int .i64 P.f0, .int .i64 P.f1, .int .i64 P.f2, .int .i64 P.f3] 71)).alloc (.cells #[Value.int .i64 P.f0, .int .i64 P.f1, .int .i64 P.f2, .int .i64 P.f3] 71)).cell? ⟨w.heap.size, 2, none⟩ = some (.int .i64 P.f2) := qA.at rfl
  have cb2 : ((w.alloc (.cells #[Value.int .i64 P.f0, .int .i64 P.f1, .int .i64 P.f2, .int .i64 P.f3] 71)).alloc (.cells #[Value.int .i64 P.f0, .int .i64 P.f1, .int .i64 P.f2, .int .i64 P.f3] 71)).cell? ⟨w.heap.size + 1, 2, none⟩ = some (.int .i64 P.f2) := qB.at rfl
  have ca3 : ((w.alloc (.cells #[Value.int .i64 P.f0, .int .i64 P.f1, .int .i64 P.f2, .int .i64 P.f3] 71)).alloc (.cells #[Value.int .i64 P.f0, .int .i64 P.f1, .int .i64 P.f2, .int .i64 P.f3] 71)).cell? ⟨w.heap.size, 3, none⟩ = some (.int .i64 P.f3) := qA.at rfl
  have cb3 : ((w.alloc (.cells #[Value.int .i64 P.f0, .int .i64 P.f1, .int .i64 P.f2, .int .i64 P.f3] 71)).alloc (.cells #[Value.int .i64 P.f0, .int .i64 P.f1, .int .i64 P.f2, .int .i64 P.f3] 71)).cell? ⟨w.heap.size + 1, 3, none⟩ = some (.int .i64 P.f3) := qB.at rfl
  go_enter Try.func64, Try.ntmps64
  go_wp2
  go_ret
  exact ⟨rfl, hB⟩

theorem infoOp : (Try.prog.info? 71).map (fun i => (i.zero, i.size, i.bytes)) = some (some (.agg #[.int .i64 0, .int .i64 0, .int .i64 0, .int .i64 0]), 4, 32) := by kernel_rfl
theorem putL_Op (w : World) (b o : Nat) (a0 a1 a2 a3 : Value) : putL w b o [a0, a1, a2, a3] = (((w.setCell ⟨b, o, none⟩ a0).setCell ⟨b, o + 1, none⟩ a1).setCell ⟨b, o + 2, none⟩ a2).setCell ⟨b, o + 3, none⟩ a3 := rfl
theorem ctb_OpS (l : List TOp) : ct (dOp l) ≤ 64 * room (dOp l) := by
  refine ct_le_room (by omega) fun i _ => ?_
  have h1 := ct_Op (l.getD i nOp)
  have h2 := room_Op (l.getD i nOp)
  show sumTo (fun x => ct ((l.getD i nOp).c x)) 4 ≤ 4 + 64 * sumTo (fun x => room ((l.getD i nOp).c x)) 4
  omega
set_option maxHeartbeats 1600000 in
set_option maxRecDepth 100000 in
theorem gto_OpS {lo hi : Nat} {w : World} {l : List TOp} {v : Value} (h : Lies lo hi w (dOp l) v) (hh : hi ≤ w.heap.size) (hm : room (dOp l) ≤ 1073741824) :
    Calls Try.prog 30 #[v] w (Given w.heap.size (dOp l) w) := by
  obtain ⟨A, c, rfl⟩ := lies_Op h
  obtain ⟨i0, hi0, hz0, hz1, hz2⟩ := info_parts infoOp
  obtain ⟨n, hn⟩ : ∃ n, l.length = n := ⟨_, rfl⟩
  have hrm : ∀ j, j < n → sumTo (fun x => room ((l.getD j nOp).c x)) 4 ≤ 1073741824 := fun j hj => Nat.le_trans (room_at (f := fun i => (l.getD i nOp).c) (by rw [hn]; exact hj)) hm
  have hnm : n ≤ 1073741824 := by
    have : room (dOp l) = l.length + _ := rfl
    omega
  have hd : dOp l = .row 4 n (fun i => (l.getD i nOp).c) := by unfold dOp; rw [hn]
  rw [hn] at h ⊢
  have HD := Lib.hid hd
  have HM := Lib.hid hrm
  clear hm hd hn hrm
  go_enter Try.func30, Try.ntmps30
  go_wp2_with (refine wpList_make_full _ rfl _ _ 24 rfl w.heap.size 71 i0 (.agg #[.int .i64 0, .int .i64 0, .int .i64 0, .int .i64 0]) 4 Try.underlying24 hi0 hz0 hz1 _ _ _ _ n rfl rfl rfl rfl ?c1 ?c2 ?c3 ?_; (case c1 => rw [hz2]; omega); (case c2 => unfold maxLen; omega); (case c3 => exact Nat.le_refl _); intro w1 hown hgr)
  have hb1 : Below w.heap.size w w1 := (Below.refl _ _).grown hgr (Nat.le_refl _) (fun _ h => by cases h)
  have hf1 : Fill w.heap.size n 4 (fun i => (l.getD i nOp).c) 0 w1 := Fill.start hown
  clear hown hgr
  go_loopw [4] (fun i wr => ∃ j : Nat, j ≤ n ∧ i = .int .i64 j ∧ Fill w.heap.size n 4 (fun i => (l.getD i nOp).c) j wr ∧ Below w.heap.size w wr) (fun i _ => n - (intOf i).toNat)
  case atStart => exact ⟨0, Nat.zero_le _, rfl, hf1, hb1⟩
  case round =>
    obtain ⟨j, hj, rfl, hf, hb⟩ := hrel
    clear hf1 hb1
    by_cases hlt : j < n
    · have hbs := hb.size
      obtain ⟨b, off, rfl, _, _, hc, hw⟩ := at_Op (h.under hb hh) hlt
      have hrj := HM.out j hlt
      rw [room_Op] at hrj
      obtain ⟨P, hP⟩ : ∃ P, l.getD j nOp = P := ⟨_, rfl⟩
      have hDj : (fun i => (l.getD i nOp).c) j = P.c := by show (l.getD j nOp).c = _; rw [hP]
      rw [hP] at hc hw
      have HDj := Lib.hid hDj
      clear hP hDj hrj
      have z0 := hc.c0
      have z1 := hc.c1
      have z2 := hc.c2
      have z3 := hc.c3
      clear hc
      go_wp2_with fail
      go_at_call 62
      refine Calls.mono (gto_Op P) ?_
      rintro e w2 ⟨rfl, hb2⟩
      have hbz := hb2.size
      have hFr : Fresh wr.heap.size w2.heap.size 4 (fun _ _ => False) (fun x => P.c x) [Value.int .i64 P.f0, .int .i64 P.f1, .int .i64 P.f2, .int .i64 P.f3] w2 := by
        refine ⟨rfl, fun x t hx hg => ?_, fun x y t hx hy hg hg' => ?_, fun x hx => ?_⟩
        · have hx' : x = 0 ∨ x = 1 ∨ x = 2 ∨ x = 3 := by omega
          rcases hx' with rfl | rfl | rfl | rfl
          · exact hg.elim
          · exact hg.elim
          · exact hg.elim
          · exact hg.elim
        · have hx' : x = 0 ∨ x = 1 ∨ x = 2 ∨ x = 3 := by omega
          rcases hx' with rfl | rfl | rfl | rfl
          · exact hg.elim
          · exact hg.elim
          · exact hg.elim
          · exact hg.elim
        · have hx' : x = 0 ∨ x = 1 ∨ x = 2 ∨ x = 3 := by omega
          rcases hx' with rfl | rfl | rfl | rfl
          · exact ⟨_, rfl, rfl, hw.1⟩
          · exact ⟨_, rfl, rfl, hw.2.1⟩
          · exact ⟨_, rfl, rfl, hw.2.2.1⟩
          · exact ⟨_, rfl, rfl, hw.2.2.2.1⟩
      have hf3 := hf.next hb2 hlt (by rw [HDj.out]; exact hFr)
      have hf2 := hf.below hb2
      have hb3 := hb.trans (hb2.mono hbs)
      have hp3 := putL_below (Nat.le_refl _) [Value.int .i64 P.f0, .int .i64 P.f1, .int .i64 P.f2, .int .i64 P.f3] _ (j * 4) hb3
      rw [putL_Op] at hf3 hp3
      clear hf hFr hw
      clear z0 z1 z2 z3
      obtain ⟨⟨v0, d0⟩, f0⟩ := hf2.rest (j * 4) (by omega)
      obtain ⟨⟨v1, d1⟩, f1⟩ := hf2.rest (j * 4 + 1) (by omega)
      obtain ⟨⟨v2, d2⟩, f2⟩ := hf2.rest (j * 4 + 2) (by omega)
      obtain ⟨⟨v3, d3⟩, f3⟩ := hf2.rest (j * 4 + 3) (by omega)
      go_wp2
      go_roundw
      case rel => exact ⟨j + 1, by omega, by go_num, hf3, hp3⟩
      case measure => simp [intOf]; omega
    · have hd : decide ((j : Int) < (n : Int)) = false := by simp; omega
      have HE := Lib.hid (show j = n by omega)
      go_wp2
      go_ret
      have h1 := hf
      rw [HE.out] at h1
      exact ⟨_, rfl, by rw [HD.out]; exact h1.own (by unfold maxLen; omega), hb⟩
set_option maxHeartbeats 1600000 in
set_option maxRecDepth 100000 in
theorem gsz_OpS {lo hi : Nat} {w : World} {l : List TOp} {v : Value} (h : Lies lo hi w (dOp l) v) (_hh : hi ≤ w.heap.size) (q : Int) (hl : 0 ≤ q) (hl' : q ≤ 1048576) :
    Calls Try.prog 28 #[v, .int .i64 q] w fun e w' => e = .returned (.int .i64 (left q (room (dOp l)))) ∧ Below w.heap.size w w' := by
  obtain ⟨A, c, rfl⟩ := lies_Op h
  obtain ⟨hnc, hcm⟩ : l.length ≤ c ∧ c ≤ maxLen := by obtain ⟨_, _, e, h1, h2, _⟩ := h; injection e with e1 e2 e3; subst e3; exact ⟨h1, h2⟩
  unfold maxLen at hcm
  obtain ⟨g, hg⟩ : ∃ g : Nat → Nat, g = fun i => sumTo (fun x => room ((l.getD i nOp).c x)) 4 := ⟨_, rfl⟩
  have hroom : room (dOp l) = l.length + sumTo g l.length := by rw [hg]; rfl
  have hgz : ∀ i, g i = sumTo (fun x => room ((l.getD i nOp).c x)) 4 := fun i => by rw [hg]
  obtain ⟨n, hn⟩ : ∃ n, l.length = n := ⟨_, rfl⟩
  rw [hn] at hroom hnc ⊢
  rw [hn] at h
  obtain ⟨T, hT⟩ : ∃ T, left q (room (dOp l)) = T := ⟨_, rfl⟩
  rw [hT]
  rw [hroom] at hT
  have HT := Lib.hid hT
  have HG := Lib.hid hgz
  have e1 : IntKind.wrap .i64 (q - n) = q - n := by rw [IntKind.wrap_i64]; omega
  clear hT hroom hg hn hgz
  by_cases h0 : (n : Int) ≤ q
  rotate_left
  · have d : decide (q - (n : Int) < 0) = true := by simp; omega
    have hT : T = -1 := by rw [← HT.out]; exact left_none (by omega)
    go_enter Try.func28, Try.ntmps28
    go_wp2
    go_ret
    exact ⟨by first | (rw [hT]; rfl) | rfl, Below.refl _ _⟩
  have d : decide (q - (n : Int) < 0) = false := by simp; omega
  have hT : T = q - n := by
    rw [← HT.out]
    have hz : ∀ m, sumTo g m = 0 := fun m => by induction m with
      | zero => rfl
      | succ m ih => simp only [sumTo]; rw [ih, HG.out, room_Op]
    rw [hz, Nat.add_zero]
    exact left_some h0
  go_enter Try.func28, Try.ntmps28
  go_wp2
  go_ret
  exact ⟨by first | (rw [hT]; rfl) | rfl, Below.refl _ _⟩
set_option maxHeartbeats 1600000 in
set_option maxRecDepth 100000 in
theorem geq_OpS {x1 y1 x2 y2 : Nat} {w : World} {l : List TOp} {v v' : Value} (h : Lies x1 y1 w (dOp l) v) (h' : Lies x2 y2 w (dOp l) v') (s1 : y1 ≤ w.heap.size) (s2 : y2 ≤ w.heap.size) :
    Calls Try.prog 32 #[v, v'] w fun e w' => e = .returned (.bool true) ∧ Below w.heap.size w w' := by
  obtain ⟨A, c, rfl⟩ := lies_Op h
  obtain ⟨A', c', rfl⟩ := lies_Op h'
  have hcm : l.length ≤ maxLen := by obtain ⟨_, _, e, h1, h2, _⟩ := h; exact Nat.le_trans h1 h2
  unfold maxLen at hcm
  obtain ⟨n, hn⟩ : ∃ n, l.length = n := ⟨_, rfl⟩
  rw [hn] at h h' hcm ⊢
  clear hn
  go_enter Try.func32, Try.ntmps32
  go_wp2
  go_loopw [5] (fun i wr => ∃ j : Nat, j ≤ n ∧ i = .int .i64 j ∧ Below w.heap.size w wr) (fun i _ => n - (intOf i).toNat)
  case atStart => exact ⟨0, Nat.zero_le _, rfl, Below.refl _ _⟩
  case round =>
    obtain ⟨j, hj, rfl, hbl⟩ := hrel
    by_cases hlt : j < n
    · have hbs := hbl.size
      obtain ⟨bu, offu, rfl, _, _, hcu, hwu⟩ := at_Op (h.under hbl s1) hlt
      obtain ⟨bt, offt, rfl, _, _, hct, hwt⟩ := at_Op (h'.under hbl s2) hlt
      obtain ⟨P, hP⟩ : ∃ P, l.getD j nOp = P := ⟨_, rfl⟩
      rw [hP] at hcu hct
      have u1 := hcu.keep (w' := wr.drew) rfl
      have u2 := hct.keep (w' := wr.drew) rfl
      have hE := geq_Op (w := wr.drew) P
      clear hP hwu hwt h h'
      have s9 := u1.all
      have t9 := u2.all
      obtain ⟨x0, x1, x2, x3⟩ := hcu.all
      obtain ⟨y0, y1, y2, y3⟩ := hct.all
      go_wp2_with fail
      go_region_held3 (fun w' => (w'.cell? ⟨bu, offu + j * 4, none⟩ = some (.int .i64 P.f0) ∧ w'.cell? ⟨bu, offu + j * 4 + 1, none⟩ = some (.int .i64 P.f1) ∧ w'.cell? ⟨bu, offu + j * 4 + 2, none⟩ = some (.int .i64 P.f2) ∧ w'.cell? ⟨bu, offu + j * 4 + 3, none⟩ = some (.int .i64 P.f3)) ∧ (w'.cell? ⟨bt, offt + j * 4, none⟩ = some (.int .i64 P.f0) ∧ w'.cell? ⟨bt, offt + j * 4 + 1, none⟩ = some (.int .i64 P.f1) ∧ w'.cell? ⟨bt, offt + j * 4 + 2, none⟩ = some (.int .i64 P.f2) ∧ w'.cell? ⟨bt, offt + j * 4 + 3, none⟩ = some (.int .i64 P.f3)))
        (first | exact r9 | assumption | go_keep)
        (first | (go_at_call 64; refine hE.mono ?_; rintro e w9 ⟨rfl, hb9⟩; have r9 := And.intro (u1.below hb9).all (u2.below hb9).all))
      all_goals
        go_wp2
        go_roundw
        case rel => exact ⟨j + 1, by omega, by go_num, hbl.drew.trans (hb9.mono hbl.drew.size)⟩
        case measure => simp [intOf]; omega
    · have hd : decide ((j : Int) < (n : Int)) = false := by simp; omega
      go_wp2
      go_ret
      exact ⟨rfl, hbl⟩
set_option maxHeartbeats 1600000 in
set_option maxRecDepth 100000 in
theorem gmark_OpS {w : World} {l : List TOp} {v : Value} {S : Nat → Prop} (m : Nat) (h : Owns w (dOp l) v S) (hm : m + ct (dOp l) ≤ 1125899906842624) :
    Calls Try.prog 34 #[v, .int .i64 m] w fun e w' => e = .returned (.int .i64 ((m + ct (dOp l) : Nat) : Int)) ∧ Owns w' (mk m (dOp l)) v S ∧ Turn S w w' := by
  obtain ⟨D, hD⟩ : ∃ D : Nat → Nat → Dat, D = (fun i => (l.getD i nOp).c) := ⟨_, rfl⟩
  obtain ⟨n, hn⟩ : ∃ n, l.length = n := ⟨_, rfl⟩
  have hd : dOp l = .row 4 n D := by rw [hD, ← hn]; rfl
  have hDz : ∀ i, D i = (l.getD i nOp).c := fun i => by rw [hD]
  have hct : ct (dOp l) = sumTo (ctRow 4 D) n := by rw [hd]; rfl
  rw [hct] at hm ⊢
  rw [hd] at h ⊢
  obtain ⟨A, c, rfl, h1, h2, h3⟩ := h
  unfold maxLen at h2
  rcases Nat.eq_zero_or_pos n with h0 | hpos
  · subst h0
    go_enter Try.func34, Try.ntmps34
    go_wp2
    refine wp_loop_rounds 1 ?_
    rw [rounds_succ]
    go_wp2
    go_ret
    exact ⟨rfl, ⟨A, c, rfl, h1, by unfold maxLen; omega, fun h => absurd h (by omega)⟩, Turn.refl _ _⟩
  obtain ⟨b, off, G, rfl, hSb, hAp, hc⟩ := h3 hpos
  have hC0 : Cellar w b off n 4 G (inked 4 D m 0 0) := by rw [inked_zero]; exact hc
  have HC0 := Lib.hid hC0
  have HA := Lib.hid hAp
  have HM := Lib.hid hm
  have HD := Lib.hid hDz
  have HL := Lib.hid h1
  have hn63 : n ≤ 9223372036854775807 := by omega
  have hmb : m ≤ 1125899906842624 := by omega
  clear hm hc h3 hC0 hAp hct hd hD hDz hn h1
  go_enter Try.func34, Try.ntmps34
  go_wp2
  go_loopw [1, 5] (fun k i wr => ∃ j kk : Nat, j ≤ n ∧ i = .int .i64 j ∧ k = .int .i64 kk ∧ Hid (kk = m + sumTo (ctRow 4 D) j) ∧ kk ≤ 1125899906842624 ∧ Hid (Cellar wr b off n 4 G (inked 4 D m j 0)) ∧ Hid (Turn S w wr)) (fun _ i _ => n - (intOf i).toNat)
  case atStart => exact ⟨0, m, Nat.zero_le _, rfl, rfl, by simp [sumTo, Hid], hmb, HC0, Turn.refl _ _⟩
  case round =>
    obtain ⟨j, kk, hj, rfl, rfl, HK, hkk, HC, HT⟩ := hrel
    clear HC0
    by_cases hlt : j < n
    · obtain ⟨P, hP⟩ : ∃ P, l.getD j nOp = P := ⟨_, rfl⟩
      have hDj : D j = P.c := by rw [HD.out, hP]
      have HDj := Lib.hid hDj
      have hb0 : m + before 4 D j 0 = kk := by rw [before_zero, HK.out]
      have htot : kk + sumTo (fun x => ct (P.c x)) 4 ≤ 1125899906842624 := by
        have q1 := sumTo_le (ctRow 4 D) (i := j + 1) (n := n) (by omega)
        have q2 : ctRow 4 D j = sumTo (fun x => ct (P.c x)) 4 := by unfold ctRow; rw [hDj]
        have q3 := HK.out; have q4 := HM.out
        simp only [sumTo] at q1 q2 ⊢
        omega
      rw [ct_Op] at htot
      have hb1 : m + before 4 D j 1 = kk + 1 := by rw [before_succ, hDj]; show m + (before 4 D j 0 + ct (.int P.f0)) = _; simp only [ct]; omega
      have hb2 : m + before 4 D j 2 = kk + 2 := by rw [before_succ, hDj]; show m + (before 4 D j 1 + ct (.int P.f1)) = _; simp only [ct]; omega
      have hb3 : m + before 4 D j 3 = kk + 3 := by rw [before_succ, hDj]; show m + (before 4 D j 2 + ct (.int P.f2)) = _; simp only [ct]; omega
      clear hP hDj
      have HB0 := Lib.hid hb0
      have HB1 := Lib.hid hb1
      have HB2 := Lib.hid hb2
      have HB3 := Lib.hid hb3
      clear hb0 hb1 hb2 hb3
      obtain ⟨fz0, u0, cl0, ow0⟩ := HC.out.next hlt (y := 0) (by omega) (by omega)
      rw [HDj.out] at ow0
      replace ow0 : Owns wr (.int P.f0) u0 (G j 0) := ow0
      obtain ⟨rfl, _⟩ := owns_int ow0
      clear ow0
      rw [Nat.add_zero] at fz0 cl0
      obtain ⟨fz1, u1, cl1, ow1⟩ := HC.out.next hlt (y := 1) (by omega) (by omega)
      rw [HDj.out] at ow1
      replace ow1 : Owns wr (.int P.f1) u1 (G j 1) := ow1
      obtain ⟨rfl, _⟩ := owns_int ow1
      clear ow1
      obtain ⟨fz2, u2, cl2, ow2⟩ := HC.out.next hlt (y := 2) (by omega) (by omega)
      rw [HDj.out] at ow2
      replace ow2 : Owns wr (.int P.f2) u2 (G j 2) := ow2
      obtain ⟨rfl, _⟩ := owns_int ow2
      clear ow2
      obtain ⟨fz3, u3, cl3, ow3⟩ := HC.out.next hlt (y := 3) (by omega) (by omega)
      rw [HDj.out] at ow3
      replace ow3 : Owns wr (.int P.f3) u3 (G j 3) := ow3
      obtain ⟨rfl, _⟩ := owns_int ow3
      clear ow3
      have HC1 := Lib.hid (Cellar.cell (v := .int .i64 ((kk : Int))) (x := 0) HC.out HA.out hlt (by omega) (fun _ _ => by rw [HB0.out, HDj.out]; exact ink_int (by first | rfl | (congr 1; omega)) (by omega)))
      rw [Nat.add_zero] at HC1
      have HT1 : Hid (Turn S w (wr.setCell ⟨b, off + j * 4, none⟩ (.int .i64 ((kk : Int))))) := Turn.setCell HT.out hSb _
      have HC2 := Lib.hid (Cellar.cell (v := .int .i64 ((kk : Int) + 1)) (x := 1) HC1.out HA.out hlt (by omega) (fun _ _ => by rw [HB1.out, HDj.out]; exact ink_int (by first | rfl | (congr 1; omega)) (by omega)))
      have HT2 : Hid (Turn S w ((wr.setCell ⟨b, off + j * 4, none⟩ (.int .i64 ((kk : Int)))).setCell ⟨b, off + j * 4 + 1, none⟩ (.int .i64 ((kk : Int) + 1)))) := Turn.setCell HT1.out hSb _
      have HC3 := Lib.hid (Cellar.cell (v := .int .i64 ((kk : Int) + 1 + 1)) (x := 2) HC2.out HA.out hlt (by omega) (fun _ _ => by rw [HB2.out, HDj.out]; exact ink_int (by first | rfl | (congr 1; omega)) (by omega)))
      have HT3 : Hid (Turn S w (((wr.setCell ⟨b, off + j * 4, none⟩ (.int .i64 ((kk : Int)))).setCell ⟨b, off + j * 4 + 1, none⟩ (.int .i64 ((kk : Int) + 1))).setCell ⟨b, off + j * 4 + 2, none⟩ (.int .i64 ((kk : Int) + 1 + 1)))) := Turn.setCell HT2.out hSb _
      have HC4 := Lib.hid (Cellar.cell (v := .int .i64 ((kk : Int) + 1 + 1 + 1)) (x := 3) HC3.out HA.out hlt (by omega) (fun _ _ => by rw [HB3.out, HDj.out]; exact ink_int (by first | rfl | (congr 1; omega)) (by omega)))
      have HT4 : Hid (Turn S w ((((wr.setCell ⟨b, off + j * 4, none⟩ (.int .i64 ((kk : Int)))).setCell ⟨b, off + j * 4 + 1, none⟩ (.int .i64 ((kk : Int) + 1))).setCell ⟨b, off + j * 4 + 2, none⟩ (.int .i64 ((kk : Int) + 1 + 1))).setCell ⟨b, off + j * 4 + 3, none⟩ (.int .i64 ((kk : Int) + 1 + 1 + 1)))) := Turn.setCell HT3.out hSb _
      have hfin : m + sumTo (ctRow 4 D) (j + 1) = kk + 4 := by rw [← before_next, before_succ, HDj.out]; show m + (before 4 D j 3 + ct (.int P.f3)) = _; have := HB3.out; simp only [ct]; omega
      have HF := Lib.hid hfin
      clear hfin
      go_wp2
      go_roundw
      case rel =>
        refine ⟨j + 1, kk + 4, by omega, by go_num, (by rw [show ((kk + 4 : Nat) : Int) = (kk : Int) + 1 + 1 + 1 + 1 by omega]), ?_, ?_, ?_, HT4⟩
        · have h1 := HF.out; show _ = _; omega
        · have h1 := HF.out; omega
        · exact (HC4.out).round
      case measure => simp [intOf]; omega
    · have hd : decide ((j : Int) < (n : Int)) = false := by simp; omega
      have HE := Lib.hid (show j = n by omega)
      go_wp2
      go_ret
      have g1 := HC.out
      have g2 := HK.out
      rw [HE.out] at g1 g2
      exact ⟨by rw [g2]; rfl, ⟨_, c, rfl, HL.out, by unfold maxLen; omega, fun _ => ⟨b, off, G, rfl, hSb, HA.out, g1.all⟩⟩, HT.out⟩
theorem lies_mk_Op {lo hi m : Nat} {w : World} {l : List TOp} {v : Value} (h : Lies lo hi w (mk m (dOp l)) v) : ∃ A c, v = .slice A l.length c := by
  obtain ⟨A, c, e, _⟩ := h; exact ⟨A, c, e⟩
end Go.Proofs.Ytbohkohccnieiaa.Gen
