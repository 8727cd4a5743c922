/-
  The draws of states.
  Conditions: the bytes lie below the cursor's block.
-/
import Derived.Test.YtbohkohccnieiaaStartO
import Derived.Test.YtbohkohccnieiaaDrawOnce
import Derived.Test.YtbohkohccnieiaaDrawAny4
import Derived.Test.YtbohkohccnieiaaDrawOwn
import Derived.Deep.RegionHeld3
import Derived.Deep.CutBlock
import Derived.Deep.DeepCutAuto
namespace Go.Proofs.Ytbohkohccnieiaa.Draw
open Go Go.RowKit Go.Proofs.Ytbohkohccnieiaa.Mem Go.Proofs.Ytbohkohccnieiaa.Gen Go.Proofs.Ytbohkohccnieiaa.Mach

/-- Numbers of a machine's kind. -/
def WfL (zs : List Int) : Prop := ∀ z ∈ zs, (Lit.int .i64 z).wf = true
theorem WfL.set {zs : List Int} (h : WfL zs) (j : Nat) {v : Int} (hv : (Lit.int .i64 v).wf = true) : WfL (zs.set j v) := fun z hz => by
  rcases List.mem_or_eq_of_mem_set hz with hz | rfl
  · exact h z hz
  · exact hv
theorem wfl_zeros {n : Nat} : WfL (List.replicate n 0) := zeros_wfO
theorem wf_low {x n : Nat} (h : x < n) (hn : n ≤ 1000000) : (Lit.int .i64 (x : Int)).wf = true := WalkArith.wf_i64 (by omega)
/-- A drawn state under way: the cursor, the rows, the boxes. -/
structure In11 (B p q r : Nat) (ws : List Value) (p1 c1 n2 p2 c2 p3 c3 n3 : Nat) (w0 w : World) (xs z1 z2 z3 : List Int) (vs : List Value) : Prop where
  cur : Cur 89 B p w
  only : Only p w0 w
  box : Blk 27 q vs w
  res : Blk 27 r ws w
  r1 : Rw p1 c1 w 4 z1
  r2 : Rw p2 c2 w n2 z2
  r3 : Rw p3 c3 w n3 z3
  f1 : WfL z1
  f2 : WfL z2
  f3 : WfL z3
section
variable {B p q r : Nat} {ws : List Value} {p1 c1 n2 p2 c2 p3 c3 n3 : Nat} {w0 w w' : World} {xs z1 z2 z3 : List Int} {vs : List Value}
theorem In11.call (h : In11 B p q r ws p1 c1 n2 p2 c2 p3 c3 n3 w0 w xs z1 z2 z3 vs) (ho : Only p w w') (hc : Cur 89 B p w') (k : p < r ∧ r < p1 ∧ p1 < p2 ∧ p2 < p3 ∧ p3 < q) : In11 B p q r ws p1 c1 n2 p2 c2 p3 c3 n3 w0 w' xs z1 z2 z3 vs :=
  ⟨hc, h.only.trans ho, ho.heap h.box (by omega), ho.heap h.res (by omega), h.r1.on ho (by omega), h.r2.on ho (by omega), h.r3.on ho (by omega), h.f1, h.f2, h.f3⟩
theorem In11.drew (h : In11 B p q r ws p1 c1 n2 p2 c2 p3 c3 n3 w0 w xs z1 z2 z3 vs) : In11 B p q r ws p1 c1 n2 p2 c2 p3 c3 n3 w0 w.drew xs z1 z2 z3 vs :=
  ⟨h.cur, h.only.drewN 1, h.box, h.res, h.r1.keep rfl, h.r2.keep rfl, h.r3.keep rfl, h.f1, h.f2, h.f3⟩
theorem In11.put1 (h : In11 B p q r ws p1 c1 n2 p2 c2 p3 c3 n3 w0 w xs z1 z2 z3 vs) (k : p < r ∧ r < p1 ∧ p1 < p2 ∧ p2 < p3 ∧ p3 < q) (hr : w0.heap.size ≤ r) (j : Nat) {v : Int} (hv : (Lit.int .i64 v).wf = true) : In11 B p q r ws p1 c1 n2 p2 c2 p3 c3 n3 w0 (w.setCell ⟨p1, j, none⟩ (.int .i64 v)) xs (z1.set j v) z2 z3 vs :=
  ⟨h.cur.only_new (a := ⟨p1, j, none⟩) (by dsimp only; omega) (by have := h.cur.1; dsimp only; omega) _, h.only.setNew (a := ⟨p1, j, none⟩) (by dsimp only; omega) _, h.box.other _ (by dsimp only; omega), h.res.other _ (by dsimp only; omega), h.r1.set j v, h.r2.other _ (by dsimp only; omega), h.r3.other _ (by dsimp only; omega), h.f1.set j hv, h.f2, h.f3⟩
theorem In11.put2 (h : In11 B p q r ws p1 c1 n2 p2 c2 p3 c3 n3 w0 w xs z1 z2 z3 vs) (k : p < r ∧ r < p1 ∧ p1 < p2 ∧ p2 < p3 ∧ p3 < q) (hr : w0.heap.size ≤ r) (j : Nat) {v : Int} (hv : (Lit.int .i64 v).wf = true) : In11 B p q r ws p1 c1 n2 p2 c2 p3 c3 n3 w0 (w.setCell ⟨p2, j, none⟩ (.int .i64 v)) xs z1 (z2.set j v) z3 vs :=
  ⟨h.cur.only_new (a := ⟨p2, j, none⟩) (by dsimp only; omega) (by have := h.cur.1; dsimp only; omega) _, h.only.setNew (a := ⟨p2, j, none⟩) (by dsimp only; omega) _, h.box.other _ (by dsimp only; omega), h.res.other _ (by dsimp only; omega), h.r1.other _ (by dsimp only; omega), h.r2.set j v, h.r3.other _ (by dsimp only; omega), h.f1, h.f2.set j hv, h.f3⟩
theorem In11.put3 (h : In11 B p q r ws p1 c1 n2 p2 c2 p3 c3 n3 w0 w xs z1 z2 z3 vs) (k : p < r ∧ r < p1 ∧ p1 < p2 ∧ p2 < p3 ∧ p3 < q) (hr : w0.heap.size ≤ r) (j : Nat) {v : Int} (hv : (Lit.int .i64 v).wf = true) : In11 B p q r ws p1 c1 n2 p2 c2 p3 c3 n3 w0 (w.setCell ⟨p3, j, none⟩ (.int .i64 v)) xs z1 z2 (z3.set j v) vs :=
  ⟨h.cur.only_new (a := ⟨p3, j, none⟩) (by dsimp only; omega) (by have := h.cur.1; dsimp only; omega) _, h.only.setNew (a := ⟨p3, j, none⟩) (by dsimp only; omega) _, h.box.other _ (by dsimp only; omega), h.res.other _ (by dsimp only; omega), h.r1.other _ (by dsimp only; omega), h.r2.other _ (by dsimp only; omega), h.r3.set j v, h.f1, h.f2, h.f3.set j hv⟩
theorem In11.putB (h : In11 B p q r ws p1 c1 n2 p2 c2 p3 c3 n3 w0 w xs z1 z2 z3 vs) (k : p < r ∧ r < p1 ∧ p1 < p2 ∧ p2 < p3 ∧ p3 < q) (hr : w0.heap.size ≤ r) (j : Nat) (v : Value) : In11 B p q r ws p1 c1 n2 p2 c2 p3 c3 n3 w0 (w.setCell ⟨q, j, none⟩ v) xs z1 z2 z3 (vs.set j v) :=
  ⟨h.cur.only_new (a := ⟨q, j, none⟩) (by dsimp only; omega) (by have := h.cur.1; dsimp only; omega) _, h.only.setNew (a := ⟨q, j, none⟩) (by dsimp only; omega) _, h.box.set j v, h.res.other _ (by dsimp only; omega), h.r1.other _ (by dsimp only; omega), h.r2.other _ (by dsimp only; omega), h.r3.other _ (by dsimp only; omega), h.f1, h.f2, h.f3⟩
theorem In11.putR (h : In11 B p q r ws p1 c1 n2 p2 c2 p3 c3 n3 w0 w xs z1 z2 z3 vs) (k : p < r ∧ r < p1 ∧ p1 < p2 ∧ p2 < p3 ∧ p3 < q) (hr : w0.heap.size ≤ r) (j : Nat) (v : Value) : In11 B p q r (ws.set j v) p1 c1 n2 p2 c2 p3 c3 n3 w0 (w.setCell ⟨r, j, none⟩ v) xs z1 z2 z3 vs :=
  ⟨h.cur.only_new (a := ⟨r, j, none⟩) (by dsimp only; omega) (by have := h.cur.1; dsimp only; omega) _, h.only.setNew (a := ⟨r, j, none⟩) (by dsimp only; omega) _, h.box.other _ (by dsimp only; omega), h.res.set j v, h.r1.other _ (by dsimp only; omega), h.r2.other _ (by dsimp only; omega), h.r3.other _ (by dsimp only; omega), h.f1, h.f2, h.f3⟩
end
def nilS : List Value := [.int .i64 0, .slice none 0 0, .slice none 0 0, .slice none 0 0]
def boxS (x : Int) (p1 c1 n2 p2 c2 p3 c3 n3 : Nat) : List Value := [.int .i64 x, .slice (some ⟨p1, 0, none⟩) 4 c1, .slice (some ⟨p2, 0, none⟩) n2 c2, .slice (some ⟨p3, 0, none⟩) n3 c3]
/-- A drawn state, each row in a block alone. -/
def IsDrawn (B p m : Nat) (w : World) (e : Ending) (w' : World) : Prop :=
  ∃ (x : Nat) (p1 c1 p2 c2 p3 c3 : Nat) (z1 z2 z3 : List Int), e = .returned (.agg #[.int .i64 (x : Int), .slice (some ⟨p1, 0, none⟩) 4 c1, .slice (some ⟨p2, 0, none⟩) 3 c2, .slice (some ⟨p3, 0, none⟩) 4 c3]) ∧ x < m + 2 ∧
    w.heap.size ≤ p1 ∧ p1 < p2 ∧ p2 < p3 ∧ Rw p1 c1 w' 4 z1 ∧ Rw p2 c2 w' 3 z2 ∧ Rw p3 c3 w' 4 z3 ∧ WfL z1 ∧ WfL z2 ∧ WfL z3 ∧ Cur 89 B p w' ∧ Only p w w'

set_option maxHeartbeats 8000000 in
set_option maxRecDepth 100000 in
theorem draw11 (B p m : Nat) (w : World) (hm : m ≤ 1000) (hc : Cur 89 B p w) :
    Calls Try.prog 83 #[.pointer (some ⟨p, 0, none⟩), .int .i64 (m : Int)] w (IsDrawn B p m w) := by
  have hp := hc.lt
  have hBp := hc.1
  obtain ⟨W, hW⟩ : ∃ W, w.alloc (.cells #[.int .i64 0, .slice none 0 0, .slice none 0 0, .slice none 0 0] 27) = W := ⟨_, rfl⟩
  have q0 : Blk 27 w.heap.size nilS W := by rw [← hW]; exact Blk.new _ [_, _, _, _] w
  have hc0 : Cur 89 B p W := by rw [← hW]; exact hc.below ((Below.refl _ _).alloc (Nat.le_refl _) _)
  have hO : Only p w W := by rw [← hW]; exact (Only.refl p w).alloc _
  have hs0 : w.heap.size < W.heap.size := q0.lt
  have hr0 : w.heap.size ≤ w.heap.size := Nat.le_refl _
  have hS := start_own W
  have HW := Lib.hid hW
  clear hc hW
  go_enter Try.func83, Try.ntmps83
  go_upto_region 1 with fail
  rw [HW.out]
  go_wp2_with fail
  go_at_call 21
  refine hS.mono ?_
  rintro e w1 ⟨p1, c1, p2, c2, p3, c3, rfl, k1, k2, k3, r1, r2, r3, hb1⟩
  have k4 := r3.lt
  obtain ⟨W2, hW2⟩ : ∃ W2, w1.alloc (.cells #[.int .i64 0, .slice (some ⟨p1, 0, none⟩) 4 c1, .slice (some ⟨p2, 0, none⟩) 3 c2, .slice (some ⟨p3, 0, none⟩) 4 c3] 27) = W2 := ⟨_, rfl⟩
  have hA : Below w1.heap.size w1 W2 := by rw [← hW2]; exact (Below.refl _ _).alloc (Nat.le_refl _) _
  have qb : Blk 27 w1.heap.size (boxS 0 p1 c1 3 p2 c2 p3 c3 4) W2 := by rw [← hW2]; exact Blk.new _ [_, _, _, _] w1
  obtain ⟨q, hq⟩ : ∃ q, w1.heap.size = q := ⟨_, rfl⟩
  have kk : p < w.heap.size ∧ w.heap.size < p1 ∧ p1 < p2 ∧ p2 < p3 ∧ p3 < q := by omega
  have hI : In11 B p q w.heap.size nilS p1 c1 3 p2 c2 p3 c3 4 w W2 [] [0, 0, 0, 0] [0, 0, 0] [0, 0, 0, 0] (boxS 0 p1 c1 3 p2 c2 p3 c3 4) :=
    ⟨(hc0.below hb1).below hA, (hO.trans (Only.of_below hb1)).trans (Only.of_below hA), hq ▸ qb, (q0.below hb1).below hA, r1.below hA, r2.below hA, r3.below hA, wfl_zeros (n := 4), wfl_zeros (n := 3), wfl_zeros (n := 4)⟩
  have HW2 := Lib.hid hW2
  have HQ := Lib.hid hq
  clear hW2 hq r1 r2 r3 hb1 hA qb q0 hc0 hO hS hs0 k4
  go_upto_region 2 with fail
  rw [HW2.out, HQ.out]
  go_wp2_with fail
  go_at_call 71
  refine (below_any B p _ _ hI.cur (by omega) (by omega)).mono ?_
  rintro e w3 ⟨⟨x, hx, rfl⟩, hc3, ho3⟩
  have hx2 : x < m + 2 := by omega
  have hI3 := hI.call ho3 hc3 kk
  have g0 := hI3.box.free 0
  have e0 := hI3.box.at (x := 0) rfl
  have hI := hI3.putB kk hr0 0 (.int .i64 (x : Int))
  clear hx hc3 ho3 hI3

  go_wp2_with fail
  go_loopw [6] (fun i wr => ∃ (j : Nat) (z1 : List Int), j ≤ 4 ∧ i = .int .i64 (j : Int) ∧ In11 B p q w.heap.size nilS p1 c1 3 p2 c2 p3 c3 4 w wr [] z1 [0, 0, 0] [0, 0, 0, 0] (boxS (x : Int) p1 c1 3 p2 c2 p3 c3 4)) (fun i _ => 4 - (Go.RowKit.intOf i).toNat)
  case atStart => exact ⟨0, _, Nat.zero_le _, rfl, hI⟩
  case round =>
    obtain ⟨j, z1, hj, rfl, hR⟩ := hrel
    clear hI
    have b1 := hR.box.at (x := 1) rfl
    by_cases hlt : j < 4
    · have hd : decide ((j : Int) < 4) = true := by simp; omega
      have i0 : (0 : Int) ≤ (j : Int) := by omega
      have i1 : (j : Int) < 4 := by omega
      have hRd := hR.drew
      have kd := hRd.box.at (x := 1) rfl
      go_wp2_with fail
      go_region_held3 (fun w' => w'.cell? ⟨q, 1, none⟩ = some (.slice (some ⟨p1, 0, none⟩) 4 c1))
        (first | (with_reducible exact kd) | (with_reducible exact s9) | (with_reducible exact s10) | go_keep)
        (first
        | (go_at_call 71; refine (below_any B p _ _ hRd.cur (by omega) (by omega)).mono ?_; rintro e w4 ⟨⟨y, hy, rfl⟩, hc4, ho4⟩; have hI4 := hRd.call ho4 hc4 kk; have s9 := hI4.box.at (x := 1) rfl; have y0 := hI4.r1.at hlt; have f0 := hI4.r1.free j; have hI5 := hI4.put1 kk hr0 j (wf_low (show y < 9 from hy) (by omega)); have s10 := hI5.box.at (x := 1) rfl))
      go_wp2
      go_roundw
      case rel => exact ⟨j + 1, _, by omega, by go_num, hI5⟩
      case measure => simp [Go.RowKit.intOf]; omega
    · have hd : decide ((j : Int) < 4) = false := by simp; omega
      have hI := hR
      clear hR
      go_wp2_with fail
      go_loopw [7] (fun i wr => ∃ (j : Nat) (z2 : List Int), j ≤ 3 ∧ i = .int .i64 (j : Int) ∧ In11 B p q w.heap.size nilS p1 c1 3 p2 c2 p3 c3 4 w wr [] z1 z2 [0, 0, 0, 0] (boxS (x : Int) p1 c1 3 p2 c2 p3 c3 4)) (fun i _ => 3 - (Go.RowKit.intOf i).toNat)
      case atStart => exact ⟨0, _, Nat.zero_le _, rfl, hI⟩
      case round =>
        obtain ⟨j, z2, hj, rfl, hR⟩ := hrel
        clear hI
        have b1 := hR.box.at (x := 2) rfl
        by_cases hlt : j < 3
        · have hd : decide ((j : Int) < 3) = true := by simp; omega
          have i0 : (0 : Int) ≤ (j : Int) := by omega
          have i1 : (j : Int) < 3 := by omega
          have hRd := hR.drew
          have kd := hRd.box.at (x := 2) rfl
          go_wp2_with fail
          go_region_held3 (fun w' => w'.cell? ⟨q, 2, none⟩ = some (.slice (some ⟨p2, 0, none⟩) 3 c2))
            (first | (with_reducible exact kd) | (with_reducible exact s9) | (with_reducible exact s10) | go_keep)
            (first
            | (go_at_call 71; refine (below_any B p _ _ hRd.cur (by omega) (by omega)).mono ?_; rintro e w4 ⟨⟨y, hy, rfl⟩, hc4, ho4⟩; have hI4 := hRd.call ho4 hc4 kk; have s9 := hI4.box.at (x := 2) rfl; have y0 := hI4.r2.at hlt; have f0 := hI4.r2.free j; have hI5 := hI4.put2 kk hr0 j (wf_low (show y < 9 from hy) (by omega)); have s10 := hI5.box.at (x := 2) rfl))
          go_wp2
          go_roundw
          case rel => exact ⟨j + 1, _, by omega, by go_num, hI5⟩
          case measure => simp [Go.RowKit.intOf]; omega
        · have hd : decide ((j : Int) < 3) = false := by simp; omega
          have hI := hR
          clear hR
          go_wp2_with fail
          go_loopw [8] (fun i wr => ∃ (j : Nat) (z3 : List Int), j ≤ 4 ∧ i = .int .i64 (j : Int) ∧ In11 B p q w.heap.size nilS p1 c1 3 p2 c2 p3 c3 4 w wr [] z1 z2 z3 (boxS (x : Int) p1 c1 3 p2 c2 p3 c3 4)) (fun i _ => 4 - (Go.RowKit.intOf i).toNat)
          case atStart => exact ⟨0, _, Nat.zero_le _, rfl, hI⟩
          case round =>
            obtain ⟨j, z3, hj, rfl, hR⟩ := hrel
            clear hI
            have b1 := hR.box.at (x := 3) rfl
            by_cases hlt : j < 4
            · have hd : decide ((j : Int) < 4) = true := by simp; omega
              have i0 : (0 : Int) ≤ (j : Int) := by omega
              have i1 : (j : Int) < 4 := by omega
              have hRd := hR.drew
              have kd := hRd.box.at (x := 3) rfl
              go_wp2_with fail
              go_region_held3 (fun w' => w'.cell? ⟨q, 3, none⟩ = some (.slice (some ⟨p3, 0, none⟩) 4 c3))
                (first | (with_reducible exact kd) | (with_reducible exact s9) | (with_reducible exact s10) | go_keep)
                (first
                | (go_at_call 71; refine (below_any B p _ _ hRd.cur (by omega) (by omega)).mono ?_; rintro e w4 ⟨⟨y, hy, rfl⟩, hc4, ho4⟩; have hI4 := hRd.call ho4 hc4 kk; have s9 := hI4.box.at (x := 3) rfl; have y0 := hI4.r3.at hlt; have f0 := hI4.r3.free j; have hI5 := hI4.put3 kk hr0 j (wf_low (show y < 9 from hy) (by omega)); have s10 := hI5.box.at (x := 3) rfl))
              go_wp2
              go_roundw
              case rel => exact ⟨j + 1, _, by omega, by go_num, hI5⟩
              case measure => simp [Go.RowKit.intOf]; omega
            · have hd : decide ((j : Int) < 4) = false := by simp; omega
              have hI := hR
              clear hR
              have v0 := hI.box.at (x := 0) rfl
              have v1 := hI.box.at (x := 1) rfl
              have v2 := hI.box.at (x := 2) rfl
              have v3 := hI.box.at (x := 3) rfl
              have u0 := hI.res.at (x := 0) rfl
              have u1 := hI.res.at (x := 1) rfl
              have u2 := hI.res.at (x := 2) rfl
              have u3 := hI.res.at (x := 3) rfl
              have t0 := hI.res.free 0
              have t1 := hI.res.free 1
              have t2 := hI.res.free 2
              have t3 := hI.res.free 3
              have hF := (((hI.putR kk hr0 0 (.int .i64 (x : Int))).putR kk hr0 1 (.slice (some ⟨p1, 0, none⟩) 4 c1)).putR kk hr0 2 (.slice (some ⟨p2, 0, none⟩) 3 c2)).putR kk hr0 3 (.slice (some ⟨p3, 0, none⟩) 4 c3)
              have g0 := hF.res.at (x := 0) rfl
              have g1 := hF.res.at (x := 1) rfl
              have g2 := hF.res.at (x := 2) rfl
              have g3 := hF.res.at (x := 3) rfl
              have HF := Lib.hid hF
              clear hF hI
              go_wp2
              refine bodyPost_ret (v := .agg #[.int .i64 (x : Int), .slice (some ⟨p1, 0, none⟩) 4 c1, .slice (some ⟨p2, 0, none⟩) 3 c2, .slice (some ⟨p3, 0, none⟩) 4 c3]) (by simp [results, Try.results83, go_sem, g0, g1, g2, g3]) rfl ?_
              have hF := HF.out
              exact ⟨x, p1, c1, p2, c2, p3, c3, z1, z2, z3, rfl, hx2, by omega, by omega, by omega, hF.r1, hF.r2, hF.r3, hF.f1, hF.f2, hF.f3, hF.cur, hF.only⟩

/-- A drawn state at its end: whose rows can be read. -/
structure Fin11 (B p q r : Nat) (ws : List Value) (w0 w : World) (S : TState) (a1 : Option Addr) (c1 : Nat) (a2 : Option Addr) (c2 : Nat) (a3 : Option Addr) (c3 : Nat) : Prop where
  cur : Cur 89 B p w
  only : Only p w0 w
  box : Blk 27 q [.int .i64 S.f0, .slice a1 S.f1.length c1, .slice a2 S.f2.length c2, .slice a3 S.f3.length c3] w
  res : Blk 27 r ws w
  l1 : Lies (r + 1) w.heap.size w (ints S.f1) (.slice a1 S.f1.length c1)
  l2 : Lies (r + 1) w.heap.size w (ints S.f2) (.slice a2 S.f2.length c2)
  l3 : Lies (r + 1) w.heap.size w (ints S.f3) (.slice a3 S.f3.length c3)
  le : S.f1.length ≤ 5 ∧ S.f2.length ≤ 5 ∧ S.f3.length ≤ 5
  wf : (Lit.int .i64 S.f0).wf = true
section
variable {B p q r : Nat} {ws : List Value} {p1 c1 n2 p2 c2 p3 c3 n3 : Nat} {w0 w w' : World} {z1 z2 z3 : List Int} {vs : List Value} {S : TState} {a1 a2 a3 : Option Addr}
theorem Fin11.putR (h : Fin11 B p q r ws w0 w S a1 c1 a2 c2 a3 c3) (k : p < r ∧ r < q) (hr : w0.heap.size ≤ r) (j : Nat) (v : Value) : Fin11 B p q r (ws.set j v) w0 (w.setCell ⟨r, j, none⟩ v) S a1 c1 a2 c2 a3 c3 :=
  have hk : ∀ t, t < w.heap.size → r + 1 ≤ t → t < w.heap.size → (w.setCell ⟨r, j, none⟩ v).heap[t]? = w.heap[t]? := fun t _ h1 _ => heap_setCell_other w _ t v (by dsimp only; omega)
  ⟨h.cur.only_new (a := ⟨r, j, none⟩) (by dsimp only; omega) (by have := h.cur.1; dsimp only; omega) _, h.only.setNew (a := ⟨r, j, none⟩) (by dsimp only; omega) _, h.box.other _ (by dsimp only; omega), h.res.set j v, (h.l1.keep hk).more (Nat.le_refl _) (by rw [gsize_set]; exact Nat.le_refl _), (h.l2.keep hk).more (Nat.le_refl _) (by rw [gsize_set]; exact Nat.le_refl _), (h.l3.keep hk).more (Nat.le_refl _) (by rw [gsize_set]; exact Nat.le_refl _), h.le, h.wf⟩
/-- The state as it stands. -/
theorem In11.fin (h : In11 B p q r ws p1 c1 n2 p2 c2 p3 c3 n3 w0 w [] z1 z2 z3 vs) (k : p < r ∧ r < p1 ∧ p1 < p2 ∧ p2 < p3 ∧ p3 < q) (hn : n2 ≤ 5 ∧ n3 ≤ 5) {x : Int} (hv : vs = boxS x p1 c1 n2 p2 c2 p3 c3 n3) (hx : (Lit.int .i64 x).wf = true) :
    Fin11 B p q r ws w0 w ⟨x, z1, z2, z3⟩ (some ⟨p1, 0, none⟩) c1 (some ⟨p2, 0, none⟩) c2 (some ⟨p3, 0, none⟩) c3 := by
  have e1 := h.r1.len
  have e2 := h.r2.len
  have e3 := h.r3.len
  have g1 := h.r1.lt
  have g2 := h.r2.lt
  have g3 := h.r3.lt
  refine ⟨h.cur, h.only, ?_, h.res, ?_, ?_, ?_, ⟨by dsimp only; omega, by dsimp only; omega, by dsimp only; omega⟩, hx⟩
  · have := h.box; rw [hv] at this; unfold boxS at this; dsimp only; rw [e1, e2, e3]; exact this
  · dsimp only; rw [e1]; exact h.r1.lies h.f1 (by omega) g1
  · dsimp only; rw [e2]; exact h.r2.lies h.f2 (by omega) g2
  · dsimp only; rw [e3]; exact h.r3.lies h.f3 (by omega) g3
/-- The last row has grown, and stands elsewhere perhaps. -/
theorem In11.grown (h : In11 B p q r ws p1 c1 n2 p2 c2 p3 c3 n3 w0 w [] z1 z2 z3 vs) (k : p < r ∧ r < p1 ∧ p1 < p2 ∧ p2 < p3 ∧ p3 < q) (hr : w0.heap.size ≤ r) {p4 c4 m : Nat} {y : Int} (hw : (Lit.int .i64 y).wf = true) (hg : w.grownBy w' (some p3)) (h4 : Rw p4 c4 w' m (z3 ++ [y])) (hp : p3 ≤ p4) (hn : n2 ≤ 5 ∧ m ≤ 5)
    {x : Int} (hv : vs = boxS x p1 c1 n2 p2 c2 p3 c3 n3) (hx : (Lit.int .i64 x).wf = true) :
    Fin11 B p q r ws w0 (w'.setCell ⟨q, 3, none⟩ (.slice (some ⟨p4, 0, none⟩) m c4)) ⟨x, z1, z2, z3 ++ [y]⟩ (some ⟨p1, 0, none⟩) c1 (some ⟨p2, 0, none⟩) c2 (some ⟨p4, 0, none⟩) c4 := by
  have e1 := h.r1.len
  have e2 := h.r2.len
  have e3 := h4.len
  have g1 := h.r1.lt
  have g2 := h.r2.lt
  have g3 := h.r3.lt
  have g4 := h4.lt
  have gq := h.box.lt
  have gs := hg.size
  have hb : Below p3 w w' := ⟨hg.os, hg.tape, hg.output, gs, fun t ht => hg.block t (by omega) (fun e => by injection e with e; omega)⟩
  have qb : Blk 27 q vs w' := (hg.block q gq (fun e => by injection e with e; omega)).trans h.box
  have hne : p4 ≠ q := h4.apart qb (by decide)
  have hRes : Blk 27 r ws w' := (hb.block r (by omega)).trans h.res
  have hC : Cur 89 B p w' := h.cur.under hb (by omega)
  have hO : Only p w0 w' := h.only.under hb (by omega)
  have hf : WfL (z3 ++ [y]) := fun z hz => by
    rcases List.mem_append.1 hz with hz | hz
    · exact h.f3 z hz
    · simp at hz; subst hz; exact hw
  have k1 := (h.r1.keep (w' := w') (hb.block p1 (by omega))).other (q := ⟨q, 3, none⟩) (.slice (some ⟨p4, 0, none⟩) m c4) (by dsimp only; omega)
  have k2 := (h.r2.keep (w' := w') (hb.block p2 (by omega))).other (q := ⟨q, 3, none⟩) (.slice (some ⟨p4, 0, none⟩) m c4) (by dsimp only; omega)
  have k4 := h4.other (q := ⟨q, 3, none⟩) (.slice (some ⟨p4, 0, none⟩) m c4) (by dsimp only; omega)
  refine ⟨hC.only_new (a := ⟨q, 3, none⟩) (by dsimp only; omega) (by have := h.cur.1; dsimp only; omega) _, hO.setNew (a := ⟨q, 3, none⟩) (by dsimp only; omega) _, ?_, hRes.other _ (by dsimp only; omega), ?_, ?_, ?_, ⟨by dsimp only; omega, by dsimp only; omega, by dsimp only; omega⟩, hx⟩
  · have := qb.set 3 (.slice (some ⟨p4, 0, none⟩) m c4); rw [hv] at this; unfold boxS at this; dsimp only; rw [e1, e2, e3]; exact this
  · dsimp only; rw [e1]; exact k1.lies h.f1 (by omega) k1.lt
  · dsimp only; rw [e2]; exact k2.lies h.f2 (by omega) k2.lt
  · dsimp only; rw [e3]; exact k4.lies hf (by omega) k4.lt
theorem In11.cut (h : In11 B p q r ws p1 c1 n2 p2 c2 p3 c3 n3 w0 w [] z1 z2 z3 vs) {m : Nat} (hm : m ≤ n2) : In11 B p q r ws p1 c1 m p2 c2 p3 c3 n3 w0 w [] z1 (z2.take m) z3 vs :=
  ⟨h.cur, h.only, h.box, h.res, h.r1, h.r2.take hm, h.r3, h.f1, fun z hz => h.f2 z (List.mem_of_mem_take hz), h.f3⟩
theorem In11.alloc (h : In11 B p q r ws p1 c1 n2 p2 c2 p3 c3 n3 w0 w [] z1 z2 z3 vs) (o : Obj) : In11 B p q r ws p1 c1 n2 p2 c2 p3 c3 n3 w0 (w.alloc o) [] z1 z2 z3 vs :=
  have hb : Below w.heap.size w (w.alloc o) := (Below.refl _ _).alloc (Nat.le_refl _) _
  ⟨h.cur.below hb, h.only.alloc o, h.box.alloc o, h.res.alloc o, h.r1.below hb, h.r2.below hb, h.r3.below hb, h.f1, h.f2, h.f3⟩
end
/-- Some drawn state. -/
def IsAny (B p : Nat) (w : World) (e : Ending) (w' : World) : Prop :=
  ∃ (S : TState) (a1 : Option Addr) (c1 : Nat) (a2 : Option Addr) (c2 : Nat) (a3 : Option Addr) (c3 : Nat), e = .returned (.agg #[.int .i64 S.f0, .slice a1 S.f1.length c1, .slice a2 S.f2.length c2, .slice a3 S.f3.length c3]) ∧
    Lies w.heap.size w'.heap.size w' (ints S.f1) (.slice a1 S.f1.length c1) ∧ Lies w.heap.size w'.heap.size w' (ints S.f2) (.slice a2 S.f2.length c2) ∧ Lies w.heap.size w'.heap.size w' (ints S.f3) (.slice a3 S.f3.length c3) ∧
    (S.f1.length ≤ 5 ∧ S.f2.length ≤ 5 ∧ S.f3.length ≤ 5) ∧ (Lit.int .i64 S.f0).wf = true ∧ Cur 89 B p w' ∧ Only p w w'

set_option maxHeartbeats 8000000 in
set_option maxRecDepth 100000 in
theorem any11 (B p m : Nat) (w : World) (hm : m ≤ 1000) (hc : Cur 89 B p w) :
    Calls Try.prog 70 #[.pointer (some ⟨p, 0, none⟩), .int .i64 (m : Int)] w (IsAny B p w) := by
  obtain ⟨i0, hi0, hz0, hz1, hz2⟩ := info_parts Nts.info
  have hp := hc.lt
  have hBp := hc.1
  obtain ⟨W, hW⟩ : ∃ W, w.alloc (.cells #[.int .i64 0, .slice none 0 0, .slice none 0 0, .slice none 0 0] 27) = W := ⟨_, rfl⟩
  have q0 : Blk 27 w.heap.size nilS W := by rw [← hW]; exact Blk.new _ [_, _, _, _] w
  have hc0 : Cur 89 B p W := by rw [← hW]; exact hc.below ((Below.refl _ _).alloc (Nat.le_refl _) _)
  have hO : Only p w W := by rw [← hW]; exact (Only.refl p w).alloc _
  have hs0 : w.heap.size < W.heap.size := q0.lt
  have hr0 : w.heap.size ≤ w.heap.size := Nat.le_refl _
  have hS := draw11 B p m W hm hc0
  have HW := Lib.hid hW
  clear hc hW
  go_enter Try.func70, Try.ntmps70
  go_upto_region 1 with fail
  rw [HW.out]
  go_wp2_with fail
  go_at_call 83
  refine hS.mono ?_
  rintro e w1 ⟨x, p1, c1, p2, c2, p3, c3, z1, z2, z3, rfl, hx, k1, k2, k3, r1, r2, r3, f1, f2, f3, hc1, ho1⟩
  have k4 := r3.lt
  obtain ⟨W2, hW2⟩ : ∃ W2, w1.alloc (.cells #[.int .i64 (x : Int), .slice (some ⟨p1, 0, none⟩) 4 c1, .slice (some ⟨p2, 0, none⟩) 3 c2, .slice (some ⟨p3, 0, none⟩) 4 c3] 27) = W2 := ⟨_, rfl⟩
  have hA : Below w1.heap.size w1 W2 := by rw [← hW2]; exact (Below.refl _ _).alloc (Nat.le_refl _) _
  have qb : Blk 27 w1.heap.size (boxS (x : Int) p1 c1 3 p2 c2 p3 c3 4) W2 := by rw [← hW2]; exact Blk.new _ [_, _, _, _] w1
  obtain ⟨q, hq⟩ : ∃ q, w1.heap.size = q := ⟨_, rfl⟩
  have kk : p < w.heap.size ∧ w.heap.size < p1 ∧ p1 < p2 ∧ p2 < p3 ∧ p3 < q := by omega
  have hI : In11 B p q w.heap.size nilS p1 c1 3 p2 c2 p3 c3 4 w W2 [] z1 z2 z3 (boxS (x : Int) p1 c1 3 p2 c2 p3 c3 4) :=
    ⟨hc1.below hA, (hO.trans ho1).trans (Only.of_below hA), hq ▸ qb, (Blk.below (show Blk 27 w.heap.size nilS w1 from ho1.heap q0 (by omega)) hA), r1.below hA, r2.below hA, r3.below hA, f1, f2, f3⟩
  have hwx : (Lit.int .i64 (x : Int)).wf = true := WalkArith.wf_i64 (by omega)
  have HW2 := Lib.hid hW2
  have HQ := Lib.hid hq
  clear hW2 hq r1 r2 r3 f1 f2 f3 hc1 ho1 hA qb q0 hc0 hO hS hs0 k4
  go_upto_region 2 with fail
  rw [HW2.out, HQ.out]
  go_wp2_with fail
  go_at_call 71
  refine (below_any B p _ _ hI.cur (by omega) (by omega)).mono ?_
  rintro e w3 ⟨⟨y, hy, rfl⟩, hc3, ho3⟩
  have hy10 : y < 10 := hy
  have hI := hI.call ho3 hc3 kk
  clear hy hc3 ho3 hx
  go_upto_block 0 with fail
  go_cut [5] (fun s wx => s = .pointer (some ⟨q, 0, none⟩) ∧ ∃ (S : TState) (a1 : Option Addr) (c1 : Nat) (a2 : Option Addr) (c2 : Nat) (a3 : Option Addr) (c3 : Nat), Fin11 B p q w.heap.size nilS w wx S a1 c1 a2 c2 a3 c3)
  case first =>
    by_cases y0 : y = 0
    · subst y0
      go_wp2_with fail
      go_at_call 39
      refine (int_new B p [-1, 19, 20, 9223372036854775807] _ _ _ rfl _ _ rfl hI.cur (by decide) (by decide)).mono ?_
      rintro e w4 ⟨⟨z, hz, rfl⟩, hc4, ho4⟩
      have hwz : (Lit.int .i64 z).wf = true := by simp at hz; rcases hz with rfl | rfl | rfl | rfl <;> decide
      have hI := hI.call ho4 hc4 kk
      have b0 := hI.box.at (x := 0) rfl
      have d0 := hI.box.free 0
      have hI := hI.putB kk hr0 0 (.int .i64 z)
      clear hc4 ho4 hz
      go_wp2_with fail
      go_meet
      case rel => exact ⟨rfl, _, _, _, _, _, _, _, hI.fin kk (by omega) rfl hwz⟩
    have e0 : ((y : Int) == 0) = false := by simp; omega
    by_cases y1 : y = 1
    · subst y1
      have b1 := hI.box.at (x := 1) rfl
      have hId := (hI.alloc (.cells #[.int .i64 (-1), .int .i64 999, .int .i64 1000] 3)).drew
      have kd := hI.drew.box.at (x := 1) rfl
      have kd2 := hId.box.at (x := 1) rfl
      have hN := int_any B p w3.heap.size 3 [-1, 999, 1000] ((w3.alloc (.cells #[.int .i64 (-1), .int .i64 999, .int .i64 1000] 3)).drew) hId.cur (by have := hI.cur.lt; omega) (fun j hj => by
        show (w3.alloc (.cells #[.int .i64 (-1), .int .i64 999, .int .i64 1000] 3)).cell? ⟨w3.heap.size, j, none⟩ = _
        rw [World.cell?_alloc_mark w3 _ _ (0, 0) j]
        have hj3 : j = 0 ∨ j = 1 ∨ j = 2 := by simp at hj; omega
        rcases hj3 with rfl | rfl | rfl <;> rfl) (by decide) (by decide)
      go_wp2_with fail
      go_region_held3 (fun w' => w'.cell? ⟨q, 1, none⟩ = some (.slice (some ⟨p1, 0, none⟩) 4 c1))
        (first | (with_reducible exact kd) | (with_reducible exact kd2) | (with_reducible exact s9) | (with_reducible exact s10) | go_keep)
        (first
        | (go_at_call 39; refine hN.mono ?_; rintro e w4 ⟨⟨z, hz, rfl⟩, hc4, ho4⟩; have hI4 := hId.call ho4 hc4 kk; have s9 := hI4.box.at (x := 1) rfl; have y0 := hI4.r1.at (show 0 < 4 by omega); have f0 := hI4.r1.free 0; have hwz : (Lit.int .i64 z).wf = true := (by simp at hz; rcases hz with rfl | rfl | rfl <;> decide); have hI5 := hI4.put1 kk hr0 0 hwz; have s10 := hI5.box.at (x := 1) rfl))
      go_wp2
      go_meet
      case rel => exact ⟨rfl, _, _, _, _, _, _, _, hI5.fin kk (by omega) rfl hwx⟩
    have e1 : ((y : Int) == 1) = false := by simp; omega
    by_cases y2 : y = 2
    · subst y2
      have b2 := hI.box.at (x := 2) rfl
      have d2 := hI.box.free 2
      have hm2 := hI.r2.here
      have hI2 := (hI.cut (m := 2) (by omega)).putB kk hr0 2 (.slice (some ⟨p2, 0, none⟩) 2 c2)
      have j0 : (0 : Int) ≤ 2 := by omega
      have j1 : (2 : Int) ≤ (c2 : Int) := by omega
      go_wp2_with fail
      go_meet
      case rel => exact ⟨rfl, _, _, _, _, _, _, _, hI2.fin kk (by omega) rfl hwx⟩
    have e2 : ((y : Int) == 2) = false := by simp; omega
    by_cases y3 : y = 3
    · subst y3
      have b3 := hI.box.at (x := 3) rfl
      have hI2 := hI.alloc (.cells #[.int .i64 1] 3)
      have bb3 := hI2.box.at (x := 3) rfl
      go_wp2_with (at_builtin; refine wpList_append_rw rfl _ _ 25 rfl i0 _ 8 Try.underlying25 hi0 hz0 hz1 hz2 rfl rfl hI2.r3 w3.heap.size 1 1 rfl ?h2 ?h3 ?h4 ?_; (case h2 => rw [World.cell?_alloc_at _ _ _ _ rfl]; rfl); (case h3 => unfold maxLen; omega); (case h4 => omega); intro p4 c4 w5 h4 hp4 hg4; have qb : Blk 27 q (boxS (x : Int) p1 c1 3 p2 c2 p3 c3 4) w5 := (hg4.block q hI2.box.lt (fun e => by injection e with e; omega)).trans hI2.box; have b5 := qb.at (x := 3) rfl; have d5 := qb.free 3)
      go_meet
      case rel => exact ⟨rfl, _, _, _, _, _, _, _, hI2.grown kk hr0 (by decide) hg4 h4 hp4 (by omega) rfl hwx⟩
    have e3 : ((y : Int) == 3) = false := by simp; omega
    go_wp2_with fail
    go_meet
    case rel => exact ⟨rfl, _, _, _, _, _, _, _, hI.fin kk (by omega) rfl hwx⟩
  case rest =>
  obtain ⟨rfl, S, a1, c1, a2, c2, a3, c3, hI⟩ := hcut
  have kr : p < w.heap.size ∧ w.heap.size < q := by omega
  have v0 := hI.box.at (x := 0) rfl
  have v1 := hI.box.at (x := 1) rfl
  have v2 := hI.box.at (x := 2) rfl
  have v3 := hI.box.at (x := 3) rfl
  have u0 := hI.res.at (x := 0) rfl
  have u1 := hI.res.at (x := 1) rfl
  have u2 := hI.res.at (x := 2) rfl
  have u3 := hI.res.at (x := 3) rfl
  have t0 := hI.res.free 0
  have t1 := hI.res.free 1
  have t2 := hI.res.free 2
  have t3 := hI.res.free 3
  have hF := (((hI.putR kr hr0 0 (.int .i64 S.f0)).putR kr hr0 1 (.slice a1 S.f1.length c1)).putR kr hr0 2 (.slice a2 S.f2.length c2)).putR kr hr0 3 (.slice a3 S.f3.length c3)
  have g0 := hF.res.at (x := 0) rfl
  have g1 := hF.res.at (x := 1) rfl
  have g2 := hF.res.at (x := 2) rfl
  have g3 := hF.res.at (x := 3) rfl
  have HF := Lib.hid hF
  clear hF hI
  go_wp2
  refine bodyPost_ret (v := .agg #[.int .i64 S.f0, .slice a1 S.f1.length c1, .slice a2 S.f2.length c2, .slice a3 S.f3.length c3]) (by simp [results, Try.results70, go_sem, g0, g1, g2, g3]) rfl ?_
  have hF := HF.out
  exact ⟨S, a1, c1, a2, c2, a3, c3, rfl, hF.l1.more (by omega) (Nat.le_refl _), hF.l2.more (by omega) (Nat.le_refl _), hF.l3.more (by omega) (Nat.le_refl _), hF.le, hF.wf, hF.cur, hF.only⟩

end Go.Proofs.Ytbohkohccnieiaa.Draw
