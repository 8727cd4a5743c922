/-
  The machine, the program: a state in arrays; its state in slices; the first state.
  Conditions: the state is valid.
-/
import Derived.Test.YtbohkohccnieiaaMachH
import Derived.Deep.RegionLaw
namespace Go.Proofs.Ytbohkohccnieiaa.Mach
open Go Go.RowKit Go.Proofs.Ytbohkohccnieiaa.Mem Go.Proofs.Ytbohkohccnieiaa.Gen Go.Proofs.Ytbohkohccnieiaa.Scripts

theorem cells_wf {n : Int} {l : List Int} (h : cellsB n l = true) : ∀ z ∈ l, (Lit.int .i64 z).wf = true := by
  intro z hz
  obtain ⟨i, hi, rfl⟩ := List.getElem_of_mem hz
  have := cellsB_get h (j := i) hi
  rw [List.getD_eq_getElem?_getD, List.getElem?_eq_getElem hi] at this
  exact WalkArith.wf_i64 (by simp only [Option.getD_some] at this; omega)

theorem own_part {w : World} {T : TypeId} {b off n : Nat} {xs : List Value} {zs : List Int} (h : Blk T b xs w) (hn : zs.length = n) (hwf : ∀ z ∈ zs, (Lit.int .i64 z).wf = true) (hx : ∀ j, j < n → xs[off + j]? = some (.int .i64 (zs.getD j 0))) : Own .i64 b (b + 1) w (some ⟨b, off, none⟩) n zs :=
  ⟨hn, hwf, fun _ => ⟨b, off, rfl, Nat.le_refl _, Nat.lt_succ_self _, fun j hj => ⟨h.at (hx j hj), h.free _⟩⟩⟩
theorem given_one {w V : World} {b : Nat} {p r0 r1 r2 r3 s0 s1 s2 n0 n1 n2 n3 : Int} (qB : Blk 67 b [.int .i64 p, .int .i64 r0, .int .i64 r1, .int .i64 r2, .int .i64 r3, .int .i64 s0, .int .i64 s1, .int .i64 s2, .int .i64 n0, .int .i64 n1, .int .i64 n2, .int .i64 n3] V) (hc1 : cellsB 4 [r0, r1, r2, r3] = true) (hc2 : cellsB 3 [s0, s1, s2] = true) (hc3 : cellsB 4 [n0, n1, n2, n3] = true) (h0 : w.heap.size ≤ b) (hB : Below w.heap.size w V) :
    GivenS w ⟨p, [r0, r1, r2, r3], [s0, s1, s2], [n0, n1, n2, n3]⟩ (.returned (.agg #[.int .i64 p, .slice (some ⟨b, 1, none⟩) 4 4, .slice (some ⟨b, 5, none⟩) 3 3, .slice (some ⟨b, 8, none⟩) 4 4])) V := by
  have hlt := qB.lt
  have o1 : Own .i64 b (b + 1) V (some ⟨b, 1, none⟩) 4 [r0, r1, r2, r3] := own_part qB rfl (cells_wf hc1) (fun j hj => by rcases j with _ | _ | _ | _ | j <;> first | rfl | omega)
  have o2 : Own .i64 b (b + 1) V (some ⟨b, 5, none⟩) 3 [s0, s1, s2] := own_part qB rfl (cells_wf hc2) (fun j hj => by rcases j with _ | _ | _ | j <;> first | rfl | omega)
  have o3 : Own .i64 b (b + 1) V (some ⟨b, 8, none⟩) 4 [n0, n1, n2, n3] := own_part qB rfl (cells_wf hc3) (fun j hj => by rcases j with _ | _ | _ | _ | j <;> first | rfl | omega)
  have e4 : (4 : Nat) ≤ maxLen := by unfold maxLen; omega
  have e3 : (3 : Nat) ≤ maxLen := by unfold maxLen; omega
  exact ⟨_, 4, Span b (b + 1), _, 3, Span b (b + 1), _, 4, Span b (b + 1), rfl, Owns.of_row o1 (Nat.le_refl _) e4 (fun t a c => ⟨a, c⟩), Owns.of_row o2 (Nat.le_refl _) e3 (fun t a c => ⟨a, c⟩), Owns.of_row o3 (Nat.le_refl _) e4 (fun t a c => ⟨a, c⟩),
    fun t h => ⟨by have := h.1; omega, by have := h.2; omega⟩, fun t h => ⟨by have := h.1; omega, by have := h.2; omega⟩, fun t h => ⟨by have := h.1; omega, by have := h.2; omega⟩, Far.at (show 1 + 4 ≤ 5 by omega), Far.at (show 1 + 4 ≤ 8 by omega), Far.at (show 5 + 3 ≤ 8 by omega), hB⟩

set_option maxHeartbeats 1600000 in
set_option maxRecDepth 100000 in
theorem state_m (w : World) (p r0 r1 r2 r3 s0 s1 s2 n0 n1 n2 n3 : Int) (hc1 : cellsB 4 [r0, r1, r2, r3] = true) (hc2 : cellsB 3 [s0, s1, s2] = true) (hc3 : cellsB 4 [n0, n1, n2, n3] = true) :
    Calls Try.prog 45 #[.agg #[.int .i64 p, .int .i64 r0, .int .i64 r1, .int .i64 r2, .int .i64 r3, .int .i64 s0, .int .i64 s1, .int .i64 s2, .int .i64 n0, .int .i64 n1, .int .i64 n2, .int .i64 n3]] w (GivenS w ⟨p, [r0, r1, r2, r3], [s0, s1, s2], [n0, n1, n2, n3]⟩) := by
  obtain ⟨W, hWW⟩ : ∃ Z, (w.alloc (.cells #[.int .i64 p, .int .i64 r0, .int .i64 r1, .int .i64 r2, .int .i64 r3, .int .i64 s0, .int .i64 s1, .int .i64 s2, .int .i64 n0, .int .i64 n1, .int .i64 n2, .int .i64 n3] 67)).alloc (.cells #[.int .i64 0, .slice none 0 0, .slice none 0 0, .slice none 0 0] 27) = Z := ⟨_, rfl⟩
  have qB : Blk 67 w.heap.size [.int .i64 p, .int .i64 r0, .int .i64 r1, .int .i64 r2, .int .i64 r3, .int .i64 s0, .int .i64 s1, .int .i64 s2, .int .i64 n0, .int .i64 n1, .int .i64 n2, .int .i64 n3] W := by rw [← hWW]; exact (Blk.new _ [.int .i64 p, .int .i64 r0, .int .i64 r1, .int .i64 r2, .int .i64 r3, .int .i64 s0, .int .i64 s1, .int .i64 s2, .int .i64 n0, .int .i64 n1, .int .i64 n2, .int .i64 n3] w).alloc _
  have qR : Blk 27 (w.heap.size + 1) [.int .i64 0, .slice none 0 0, .slice none 0 0, .slice none 0 0] W := by
    have := Blk.new 27 [.int .i64 0, .slice none 0 0, .slice none 0 0, .slice none 0 0] (w.alloc (.cells #[.int .i64 p, .int .i64 r0, .int .i64 r1, .int .i64 r2, .int .i64 r3, .int .i64 s0, .int .i64 s1, .int .i64 s2, .int .i64 n0, .int .i64 n1, .int .i64 n2, .int .i64 n3] 67))
    rw [gsize_alloc] at this
    rw [← hWW]; exact this
  have hB : Below w.heap.size w W := by rw [← hWW]; exact ((Below.refl _ _).alloc (Nat.le_refl _) _).alloc (by rw [gsize_alloc]; omega) _
  have hz : w.heap.size + 2 ≤ W.heap.size := qR.lt
  have hc1 := Lib.hid hc1
  have hc2 := Lib.hid hc2
  have hc3 := Lib.hid hc3
  go_enter Try.func45, Try.ntmps45
  go_upto_region 1 with fail
  have HW := Lib.hid hWW
  clear hWW
  have x0 : W.cell? ⟨w.heap.size, 0, none⟩ = some (.int .i64 p) := qB.at rfl
  have d0 := qR.free 0
  have d1 := qR.free 1
  have d2 := qR.free 2
  have d3 := qR.free 3
  have z0 : W.cell? ⟨w.heap.size + 1, 0, none⟩ = some (.int .i64 0) := qR.at rfl
  have z1 : W.cell? ⟨w.heap.size + 1, 1, none⟩ = some (.slice none 0 0) := qR.at rfl
  have z2 : W.cell? ⟨w.heap.size + 1, 2, none⟩ = some (.slice none 0 0) := qR.at rfl
  have z3 : W.cell? ⟨w.heap.size + 1, 3, none⟩ = some (.slice none 0 0) := qR.at rfl
  go_region
  obtain ⟨V, hV⟩ : ∃ V, (((W.setCell ⟨w.heap.size + 1, 0, none⟩ (.int .i64 p)).setCell ⟨w.heap.size + 1, 1, none⟩ (.slice (some ⟨w.heap.size, 1, none⟩) 4 4)).setCell ⟨w.heap.size + 1, 2, none⟩ (.slice (some ⟨w.heap.size, 5, none⟩) 3 3)).setCell ⟨w.heap.size + 1, 3, none⟩ (.slice (some ⟨w.heap.size, 8, none⟩) 4 4) = V := ⟨_, rfl⟩
  have qF := (((qR.set 0 (.int .i64 p)).set 1 (.slice (some ⟨w.heap.size, 1, none⟩) 4 4)).set 2 (.slice (some ⟨w.heap.size, 5, none⟩) 3 3)).set 3 (.slice (some ⟨w.heap.size, 8, none⟩) 4 4)
  have qM := (((qB.other (a := ⟨w.heap.size + 1, 0, none⟩) (.int .i64 p) (by dsimp only; omega)).other (a := ⟨w.heap.size + 1, 1, none⟩) (.slice (some ⟨w.heap.size, 1, none⟩) 4 4) (by dsimp only; omega)).other (a := ⟨w.heap.size + 1, 2, none⟩) (.slice (some ⟨w.heap.size, 5, none⟩) 3 3) (by dsimp only; omega)).other (a := ⟨w.heap.size + 1, 3, none⟩) (.slice (some ⟨w.heap.size, 8, none⟩) 4 4) (by dsimp only; omega)
  have hF := (((hB.setCell (p := ⟨w.heap.size + 1, 0, none⟩) (Nat.le_succ _) (.int .i64 p)).setCell (p := ⟨w.heap.size + 1, 1, none⟩) (Nat.le_succ _) (.slice (some ⟨w.heap.size, 1, none⟩) 4 4)).setCell (p := ⟨w.heap.size + 1, 2, none⟩) (Nat.le_succ _) (.slice (some ⟨w.heap.size, 5, none⟩) 3 3)).setCell (p := ⟨w.heap.size + 1, 3, none⟩) (Nat.le_succ _) (.slice (some ⟨w.heap.size, 8, none⟩) 4 4)
  rw [hV] at qF qM hF ⊢
  clear hV
  simp only [List.set_cons_zero, List.set_cons_succ] at qF
  have g0 := qF.drew.at (x := 0) rfl
  have g1 := qF.drew.at (x := 1) rfl
  have g2 := qF.drew.at (x := 2) rfl
  have g3 := qF.drew.at (x := 3) rfl
  have HG := Lib.hid (given_one (w := w) qM.drew hc1.out hc2.out hc3.out (Nat.le_refl _) (gbelow_drewN hF 1))
  clear qF qM hF qB qR hB x0 d0 d1 d2 d3 z0 z1 z2 z3
  go_wp2
  refine bodyPost_ret (v := .agg #[.int .i64 p, .slice (some ⟨w.heap.size, 1, none⟩) 4 4, .slice (some ⟨w.heap.size, 5, none⟩) 3 3, .slice (some ⟨w.heap.size, 8, none⟩) 4 4]) (by simp [results, Try.results45, go_sem, g0, g1, g2, g3]) rfl ?_
  exact HG.out

/-- All the cells of a block of twelve are written. -/
theorem put12 {T : TypeId} {w w1 : World} {B b : Nat} {u0 u1 u2 u3 u4 u5 u6 u7 u8 u9 u10 u11 v0 v1 v2 v3 v4 v5 v6 v7 v8 v9 v10 v11 : Value} (q : Blk T b [u0, u1, u2, u3, u4, u5, u6, u7, u8, u9, u10, u11] w1) (hb : B ≤ b) (hB : Below B w w1) :
    ∃ V, ((((((((((((w1.setCell ⟨b, 0, none⟩ v0).setCell ⟨b, 1, none⟩ v1).setCell ⟨b, 2, none⟩ v2).setCell ⟨b, 3, none⟩ v3).setCell ⟨b, 4, none⟩ v4).setCell ⟨b, 5, none⟩ v5).setCell ⟨b, 6, none⟩ v6).setCell ⟨b, 7, none⟩ v7).setCell ⟨b, 8, none⟩ v8).setCell ⟨b, 9, none⟩ v9).setCell ⟨b, 10, none⟩ v10).setCell ⟨b, 11, none⟩ v11) = V ∧ Blk T b [v0, v1, v2, v3, v4, v5, v6, v7, v8, v9, v10, v11] V ∧ V.heap.size = w1.heap.size ∧ (∀ t, t ≠ b → V.heap[t]? = w1.heap[t]?) ∧ Below B w V := by
  have qF := ((((((((((((q.set 0 v0).set 1 v1).set 2 v2).set 3 v3).set 4 v4).set 5 v5).set 6 v6).set 7 v7).set 8 v8).set 9 v9).set 10 v10).set 11 v11)
  simp only [List.set_cons_zero, List.set_cons_succ] at qF
  refine ⟨_, rfl, qF, by simp only [gsize_set], fun t hne => by rw [heap_setCell_other _ _ t _ (by dsimp only; omega), heap_setCell_other _ _ t _ (by dsimp only; omega), heap_setCell_other _ _ t _ (by dsimp only; omega), heap_setCell_other _ _ t _ (by dsimp only; omega), heap_setCell_other _ _ t _ (by dsimp only; omega), heap_setCell_other _ _ t _ (by dsimp only; omega), heap_setCell_other _ _ t _ (by dsimp only; omega), heap_setCell_other _ _ t _ (by dsimp only; omega), heap_setCell_other _ _ t _ (by dsimp only; omega), heap_setCell_other _ _ t _ (by dsimp only; omega), heap_setCell_other _ _ t _ (by dsimp only; omega), heap_setCell_other _ _ t _ (by dsimp only; omega)], ((((((((((((hB.setCell (p := ⟨b, 0, none⟩) hb v0).setCell (p := ⟨b, 1, none⟩) hb v1).setCell (p := ⟨b, 2, none⟩) hb v2).setCell (p := ⟨b, 3, none⟩) hb v3).setCell (p := ⟨b, 4, none⟩) hb v4).setCell (p := ⟨b, 5, none⟩) hb v5).setCell (p := ⟨b, 6, none⟩) hb v6).setCell (p := ⟨b, 7, none⟩) hb v7).setCell (p := ⟨b, 8, none⟩) hb v8).setCell (p := ⟨b, 9, none⟩) hb v9).setCell (p := ⟨b, 10, none⟩) hb v10).setCell (p := ⟨b, 11, none⟩) hb v11)⟩

/-- A state handed back, its lengths under names. -/
def GivenN (w : World) (R : TState) (z : Int) (n1 n2 n3 : Nat) (e : Ending) (w' : World) : Prop :=
  ∃ (x1 : Option Addr) (y1 : Nat) (S1 : Nat → Prop) (x2 : Option Addr) (y2 : Nat) (S2 : Nat → Prop) (x3 : Option Addr) (y3 : Nat) (S3 : Nat → Prop), e = .returned (.agg #[.int .i64 z, .slice x1 n1 y1, .slice x2 n2 y2, .slice x3 n3 y3]) ∧
    Owns w' (ints R.f1) (.slice x1 n1 y1) S1 ∧ Owns w' (ints R.f2) (.slice x2 n2 y2) S2 ∧ Owns w' (ints R.f3) (.slice x3 n3 y3) S3 ∧
    (∀ t, S1 t → w.heap.size ≤ t ∧ t < w'.heap.size) ∧ (∀ t, S2 t → w.heap.size ≤ t ∧ t < w'.heap.size) ∧ (∀ t, S3 t → w.heap.size ≤ t ∧ t < w'.heap.size) ∧
    Far x1 n1 x2 n2 ∧ Far x1 n1 x3 n3 ∧ Far x2 n2 x3 n3 ∧ Below w.heap.size w w'
theorem given_n {w w' : World} {R : TState} {z : Int} {n1 n2 n3 : Nat} {e : Ending} (e0 : R.f0 = z) (e1 : R.f1.length = n1) (e2 : R.f2.length = n2) (e3 : R.f3.length = n3) (h : GivenS w R e w') : GivenN w R z n1 n2 n3 e w' := by
  subst e0 e1 e2 e3; exact h
theorem given_s {w w' : World} {R : TState} {z : Int} {n1 n2 n3 : Nat} {e : Ending} (e0 : R.f0 = z) (e1 : R.f1.length = n1) (e2 : R.f2.length = n2) (e3 : R.f3.length = n3) (h : GivenN w R z n1 n2 n3 e w') : GivenS w R e w' := by
  subst e0 e1 e2 e3; exact h
/-- A state that a call handed back is stored into a result's block. -/
theorem put_back {w W w1 : World} {R : TState} {z : Int} {n1 n2 n3 b y1 y2 y3 : Nat} {v0 v1 v2 v3 : Value} {x1 x2 x3 : Option Addr} {S1 S2 S3 : Nat → Prop} (qR : Blk 27 b [v0, v1, v2, v3] w1)
    (o1 : Owns w1 (ints R.f1) (.slice x1 n1 y1) S1) (o2 : Owns w1 (ints R.f2) (.slice x2 n2 y2) S2) (o3 : Owns w1 (ints R.f3) (.slice x3 n3 y3) S3)
    (u1 : ∀ t, S1 t → W.heap.size ≤ t ∧ t < w1.heap.size) (u2 : ∀ t, S2 t → W.heap.size ≤ t ∧ t < w1.heap.size) (u3 : ∀ t, S3 t → W.heap.size ≤ t ∧ t < w1.heap.size)
    (f12 : Far x1 n1 x2 n2) (f13 : Far x1 n1 x3 n3) (f23 : Far x2 n2 x3 n3) (hb : w.heap.size ≤ b) (hbW : b < W.heap.size) (hB : Below w.heap.size w w1) :
    ∃ V, (((w1.setCell ⟨b, 0, none⟩ (.int .i64 z)).setCell ⟨b, 1, none⟩ (.slice x1 n1 y1)).setCell ⟨b, 2, none⟩ (.slice x2 n2 y2)).setCell ⟨b, 3, none⟩ (.slice x3 n3 y3) = V ∧
      Blk 27 b [.int .i64 z, .slice x1 n1 y1, .slice x2 n2 y2, .slice x3 n3 y3] V ∧ V.heap.size = w1.heap.size ∧ (∀ t, t ≠ b → V.heap[t]? = w1.heap[t]?) ∧ Below w.heap.size w V ∧
      GivenN w R z n1 n2 n3 (.returned (.agg #[.int .i64 z, .slice x1 n1 y1, .slice x2 n2 y2, .slice x3 n3 y3])) V := by
  have qF := (((qR.set 0 (.int .i64 z)).set 1 (.slice x1 n1 y1)).set 2 (.slice x2 n2 y2)).set 3 (.slice x3 n3 y3)
  simp only [List.set_cons_zero, List.set_cons_succ] at qF
  have hkeep : ∀ t, t ≠ b → ((((w1.setCell ⟨b, 0, none⟩ (.int .i64 z)).setCell ⟨b, 1, none⟩ (.slice x1 n1 y1)).setCell ⟨b, 2, none⟩ (.slice x2 n2 y2)).setCell ⟨b, 3, none⟩ (.slice x3 n3 y3)).heap[t]? = w1.heap[t]? := fun t hne => by
    rw [heap_setCell_other _ _ t _ (by dsimp only; omega), heap_setCell_other _ _ t _ (by dsimp only; omega), heap_setCell_other _ _ t _ (by dsimp only; omega), heap_setCell_other _ _ t _ (by dsimp only; omega)]
  have hFB := (((hB.setCell (p := ⟨b, 0, none⟩) hb (.int .i64 z)).setCell (p := ⟨b, 1, none⟩) hb (.slice x1 n1 y1)).setCell (p := ⟨b, 2, none⟩) hb (.slice x2 n2 y2)).setCell (p := ⟨b, 3, none⟩) hb (.slice x3 n3 y3)
  have hFS : ((((w1.setCell ⟨b, 0, none⟩ (.int .i64 z)).setCell ⟨b, 1, none⟩ (.slice x1 n1 y1)).setCell ⟨b, 2, none⟩ (.slice x2 n2 y2)).setCell ⟨b, 3, none⟩ (.slice x3 n3 y3)).heap.size = w1.heap.size := by simp only [gsize_set]
  refine ⟨_, rfl, qF, hFS, hkeep, hFB, ?_⟩
  obtain ⟨VF, hVF⟩ : ∃ VF, (((w1.setCell ⟨b, 0, none⟩ (.int .i64 z)).setCell ⟨b, 1, none⟩ (.slice x1 n1 y1)).setCell ⟨b, 2, none⟩ (.slice x2 n2 y2)).setCell ⟨b, 3, none⟩ (.slice x3 n3 y3) = VF := ⟨_, rfl⟩
  rw [hVF] at hFB hFS ⊢
  simp only [hVF] at hkeep
  exact ⟨x1, y1, S1, x2, y2, S2, x3, y3, S3, rfl, Owns.keep o1 (fun t _ hS => hkeep t (by have := u1 t hS; omega)), Owns.keep o2 (fun t _ hS => hkeep t (by have := u2 t hS; omega)), Owns.keep o3 (fun t _ hS => hkeep t (by have := u3 t hS; omega)),
    fun t hS => by have := u1 t hS; omega, fun t hS => by have := u2 t hS; omega, fun t hS => by have := u3 t hS; omega, f12, f13, f23, hFB⟩
theorem given_drew {w V : World} {R : TState} {z : Int} {n1 n2 n3 : Nat} {v : Value} (h : GivenN w R z n1 n2 n3 (.returned v) V) (m : Nat) : GivenN w R z n1 n2 n3 (.returned v) (V.drewN m) := by
  obtain ⟨x1, y1, S1, x2, y2, S2, x3, y3, S3, e, o1, o2, o3, u1, u2, u3, f12, f13, f23, hB⟩ := h
  exact ⟨x1, y1, S1, x2, y2, S2, x3, y3, S3, e, Owns.drewN o1 m, Owns.drewN o2 m, Owns.drewN o3 m, u1, u2, u3, f12, f13, f23, gbelow_drewN hB m⟩

set_option maxHeartbeats 1600000 in
set_option maxRecDepth 100000 in
theorem start_impl (w : World) : Calls Try.prog 20 #[] w (GivenS w startS) := by
  obtain ⟨W, hWW⟩ : ∃ Z, w.alloc (.cells #[.int .i64 0, .slice none 0 0, .slice none 0 0, .slice none 0 0] 27) = Z := ⟨_, rfl⟩
  have qR : Blk 27 w.heap.size [.int .i64 0, .slice none 0 0, .slice none 0 0, .slice none 0 0] W := by rw [← hWW]; exact Blk.new _ [_, _, _, _] w
  have hB : Below w.heap.size w W := by rw [← hWW]; exact (Below.refl _ _).alloc (Nat.le_refl _) _
  have hK := (state_m W 0 0 0 0 0 0 0 0 0 0 0 0 (by decide) (by decide) (by decide)).mono fun e w' h => given_n (z := 0) (n1 := 4) (n2 := 3) (n3 := 4) rfl rfl rfl rfl h
  have hz := hB.size
  have hq := qR.lt
  have HW := Lib.hid hWW
  clear hWW
  go_enter Try.func20, Try.ntmps20
  go_upto_region 1 with fail
  rw [HW.out]
  go_wp2_with fail
  go_at_call 45
  refine hK.mono ?_
  rintro e w1 ⟨x1, y1, S1, x2, y2, S2, x3, y3, S3, rfl, o1, o2, o3, u1, u2, u3, f12, f13, f23, hb1⟩
  obtain ⟨V, hV, qF, _, _, _, hG⟩ := put_back (w := w) (W := W) (R := startS) (z := 0) (qR.below hb1) o1 o2 o3 u1 u2 u3 f12 f13 f23 (Nat.le_refl _) hq (hB.trans (hb1.mono hz))
  clear o1 o2 o3 u1 u2 u3 f12 f13 f23
  have qR := qR.below hb1
  have s0 := qR.at (x := 0) rfl
  have s1 := qR.at (x := 1) rfl
  have s2 := qR.at (x := 2) rfl
  have s3 := qR.at (x := 3) rfl
  have t0 := qR.free 0
  have t1 := qR.free 1
  have t2 := qR.free 2
  have t3 := qR.free 3
  have g0 := qF.at (x := 0) rfl
  have g1 := qF.at (x := 1) rfl
  have g2 := qF.at (x := 2) rfl
  have g3 := qF.at (x := 3) rfl
  have HG := Lib.hid (given_s (w := w) (R := startS) rfl rfl rfl rfl hG)
  have HV := Lib.hid hV
  clear hV qF qR hG
  go_wp2
  rw [HV.out]
  refine bodyPost_ret (v := .agg #[.int .i64 0, .slice x1 4 y1, .slice x2 3 y2, .slice x3 4 y3]) (by simp [results, Try.results20, go_sem, g0, g1, g2, g3]) rfl ?_
  exact HG.out
end Go.Proofs.Ytbohkohccnieiaa.Mach
