/-
  The draws of a script and a state, and of a value beside them.
  Conditions: the bytes are in memory.
-/
import Derived.Test.YtbohkohccnieiaaDraws10
import Derived.Test.YtbohkohccnieiaaDraws11
namespace Go.Proofs.Ytbohkohccnieiaa.Draw
open Go Go.RowKit Go.Proofs.Ytbohkohccnieiaa.Mem Go.Proofs.Ytbohkohccnieiaa.Gen Go.Proofs.Ytbohkohccnieiaa.Mach

def put4 (w : World) (r : Nat) (v0 v1 v2 v3 : Value) : World := (((w.setCell ⟨r, 0, none⟩ v0).setCell ⟨r, 1, none⟩ v1).setCell ⟨r, 2, none⟩ v2).setCell ⟨r, 3, none⟩ v3
theorem keep4 (w : World) (r : Nat) (v0 v1 v2 v3 : Value) : ∀ t, t ≠ r → ((((w.setCell ⟨r, 0, none⟩ v0).setCell ⟨r, 1, none⟩ v1).setCell ⟨r, 2, none⟩ v2).setCell ⟨r, 3, none⟩ v3).heap[t]? = w.heap[t]? := fun t hne => by
  rw [heap_setCell_other _ _ t _ (by dsimp only; omega), heap_setCell_other _ _ t _ (by dsimp only; omega), heap_setCell_other _ _ t _ (by dsimp only; omega), heap_setCell_other _ _ t _ (by dsimp only; omega)]
theorem size4 (w : World) (r : Nat) (v0 v1 v2 v3 : Value) : ((((w.setCell ⟨r, 0, none⟩ v0).setCell ⟨r, 1, none⟩ v1).setCell ⟨r, 2, none⟩ v2).setCell ⟨r, 3, none⟩ v3).heap.size = w.heap.size := by simp only [gsize_set]
theorem below4 {B r : Nat} {w w' : World} (h : Below B w w') (hr : B ≤ r) (v0 v1 v2 v3 : Value) : Below B w ((((w'.setCell ⟨r, 0, none⟩ v0).setCell ⟨r, 1, none⟩ v1).setCell ⟨r, 2, none⟩ v2).setCell ⟨r, 3, none⟩ v3) :=
  (((h.setCell (p := ⟨r, 0, none⟩) hr v0).setCell (p := ⟨r, 1, none⟩) hr v1).setCell (p := ⟨r, 2, none⟩) hr v2).setCell (p := ⟨r, 3, none⟩) hr v3
theorem put4_other {T q r : Nat} {w : World} {xs : List Value} (h : Blk T q xs w) (hne : q ≠ r) (v0 v1 v2 v3 : Value) : Blk T q xs ((((w.setCell ⟨r, 0, none⟩ v0).setCell ⟨r, 1, none⟩ v1).setCell ⟨r, 2, none⟩ v2).setCell ⟨r, 3, none⟩ v3) := (keep4 w r v0 v1 v2 v3 q hne).trans h
theorem four {T q : Nat} {w : World} {v0 v1 v2 v3 : Value} (h : Blk T q [v0, v1, v2, v3] w) : w.cell? ⟨q, 0, none⟩ = some v0 ∧ w.cell? ⟨q, 1, none⟩ = some v1 ∧ w.cell? ⟨q, 2, none⟩ = some v2 ∧ w.cell? ⟨q, 3, none⟩ = some v3 := ⟨h.at rfl, h.at rfl, h.at rfl, h.at rfl⟩
/-- The rows of a state, between two blocks. -/
structure Rows3 (lo hi : Nat) (w : World) (P : TState) (a1 : Option Addr) (c1 : Nat) (a2 : Option Addr) (c2 : Nat) (a3 : Option Addr) (c3 : Nat) : Prop where
  r1 : Lies lo hi w (ints P.f1) (.slice a1 P.f1.length c1)
  r2 : Lies lo hi w (ints P.f2) (.slice a2 P.f2.length c2)
  r3 : Lies lo hi w (ints P.f3) (.slice a3 P.f3.length c3)
theorem Rows3.keep {lo hi : Nat} {w w' : World} {P : TState} {a1 a2 a3 : Option Addr} {c1 c2 c3 : Nat} (h : Rows3 lo hi w P a1 c1 a2 c2 a3 c3) (hk : ∀ t, t < w.heap.size → lo ≤ t → t < hi → w'.heap[t]? = w.heap[t]?) : Rows3 lo hi w' P a1 c1 a2 c2 a3 c3 :=
  ⟨h.r1.keep hk, h.r2.keep hk, h.r3.keep hk⟩
theorem Rows3.below {lo hi : Nat} {w w' : World} {P : TState} {a1 a2 a3 : Option Addr} {c1 c2 c3 : Nat} (h : Rows3 lo hi w P a1 c1 a2 c2 a3 c3) (hb : Below w.heap.size w w') : Rows3 lo hi w' P a1 c1 a2 c2 a3 c3 := h.keep fun t a _ _ => hb.block t a
/-- A script and a state, drawn. -/
def DrawnPairS (w : World) (e : Ending) (w' : World) : Prop :=
  ∃ (A : Option Addr) (d : Nat) (l : List TOp) (S : TState) (a1 : Option Addr) (c1 : Nat) (a2 : Option Addr) (c2 : Nat) (a3 : Option Addr) (c3 : Nat), e = .returned (.tuple #[.slice A l.length d, .agg #[.int .i64 S.f0, .slice a1 S.f1.length c1, .slice a2 S.f2.length c2, .slice a3 S.f3.length c3]]) ∧
    Lies w.heap.size w'.heap.size w' (dOp l) (.slice A l.length d) ∧ Rows3 w.heap.size w'.heap.size w' S a1 c1 a2 c2 a3 c3 ∧ l.length ≤ 17 ∧ (S.f1.length ≤ 5 ∧ S.f2.length ≤ 5 ∧ S.f3.length ≤ 5) ∧ (Lit.int .i64 S.f0).wf = true ∧ Below w.heap.size w w'

set_option maxHeartbeats 4000000 in
set_option maxRecDepth 100000 in
theorem draw_want (B : Nat) (a : Option Addr) (n c : Nat) (w : World) (hb : Bytes B w a n) (hB : B ≤ w.heap.size) :
    Calls Try.prog 37 #[.slice a n c] w (DrawnPairS w) := by
  obtain ⟨W, hW⟩ : ∃ W, w.alloc (.cells #[.int .i64 0, .slice none 0 0, .slice none 0 0, .slice none 0 0] 27) = W := ⟨_, rfl⟩
  have qR : Blk 27 w.heap.size nilS W := by rw [← hW]; exact Blk.new _ [_, _, _, _] w
  have hA : Below w.heap.size w W := by rw [← hW]; exact (Below.refl _ _).alloc (Nat.le_refl _) _
  have hs0 : w.heap.size < W.heap.size := qR.lt
  have hbW : Bytes B W a n := hb.below hA
  have HW := Lib.hid hW
  clear hW hb
  go_enter Try.func37, Try.ntmps37
  go_upto_region 1 with fail
  rw [HW.out]
  go_wp2_with fail
  go_at_call 38
  refine (new_any B a n c _ hbW (by omega)).mono ?_
  rintro e w1 ⟨rfl, hc1, hb1⟩
  have hs1 := hc1.lt
  have qR := qR.below hb1
  have hB1 := hA.trans (hb1.mono (by omega))
  obtain ⟨p, hp⟩ : ∃ p, W.heap.size = p := ⟨_, rfl⟩
  rw [hp] at hc1 hs0 hs1 ⊢
  clear hb1 hA hbW HW hp
  go_wp2_with fail
  go_at_call 69
  refine (any10 B p _ hc1).mono ?_
  rintro e w2 ⟨A, d, l, rfl, hL, hl, hc2, ho2⟩
  have hs2 := ho2.size
  have qR : Blk 27 w.heap.size nilS w2 := ho2.heap qR (by omega)
  have hB2 := hB1.trans (ho2.below (B := w.heap.size) (by omega) (by omega))
  obtain ⟨m, hm⟩ : ∃ m, l.length = m := ⟨_, rfl⟩
  have hm17 : m ≤ 17 := by omega
  rw [hm] at hL ⊢
  have HM := Lib.hid hm
  clear hm hc1 ho2 hB1 hl
  go_wp2_with fail
  go_at_call 70
  refine (any11 B p m _ (by omega) hc2).mono ?_
  rintro e W9 ⟨S, a1, c1, a2, c2, a3, c3, rfl, h1, h2, h3, hle, hwf, hc3, ho3⟩
  have hs3 := ho3.size
  have qR : Blk 27 w.heap.size nilS W9 := ho3.heap qR (by omega)
  have hB := hB2.trans (ho3.below (B := w.heap.size) (by omega) (by omega))
  have hL := (hL.keep (w' := W9) (fun t h1 h2 _ => ho3.block t h1 (by omega))).more (Nat.le_refl _) hs3
  clear ho3 hB2 hc2 hc3
  have u0 := qR.at (x := 0) rfl
  have u1 := qR.at (x := 1) rfl
  have u2 := qR.at (x := 2) rfl
  have u3 := qR.at (x := 3) rfl
  have t0 := qR.free 0
  have t1 := qR.free 1
  have t2 := qR.free 2
  have t3 := qR.free 3
  have qF := (((qR.set 0 (.int .i64 S.f0)).set 1 (.slice a1 S.f1.length c1)).set 2 (.slice a2 S.f2.length c2)).set 3 (.slice a3 S.f3.length c3)
  have hk := keep4 W9 w.heap.size (.int .i64 S.f0) (.slice a1 S.f1.length c1) (.slice a2 S.f2.length c2) (.slice a3 S.f3.length c3)
  have hB := below4 (r := w.heap.size) hB (by omega) (.int .i64 S.f0) (.slice a1 S.f1.length c1) (.slice a2 S.f2.length c2) (.slice a3 S.f3.length c3)
  have g0 := qF.at (x := 0) rfl
  have g1 := qF.at (x := 1) rfl
  have g2 := qF.at (x := 2) rfl
  have g3 := qF.at (x := 3) rfl
  have hL := (hL.keep (w' := put4 W9 w.heap.size (.int .i64 S.f0) (.slice a1 S.f1.length c1) (.slice a2 S.f2.length c2) (.slice a3 S.f3.length c3)) (fun t h1 h2 _ => hk t (by omega))).more (lo' := w.heap.size) (by omega) (Nat.le_of_eq (size4 W9 w.heap.size (.int .i64 S.f0) (.slice a1 S.f1.length c1) (.slice a2 S.f2.length c2) (.slice a3 S.f3.length c3)).symm)
  have h1 := (h1.keep (w' := put4 W9 w.heap.size (.int .i64 S.f0) (.slice a1 S.f1.length c1) (.slice a2 S.f2.length c2) (.slice a3 S.f3.length c3)) (fun t h1 h2 _ => hk t (by omega))).more (lo' := w.heap.size) (by omega) (Nat.le_of_eq (size4 W9 w.heap.size (.int .i64 S.f0) (.slice a1 S.f1.length c1) (.slice a2 S.f2.length c2) (.slice a3 S.f3.length c3)).symm)
  have h2 := (h2.keep (w' := put4 W9 w.heap.size (.int .i64 S.f0) (.slice a1 S.f1.length c1) (.slice a2 S.f2.length c2) (.slice a3 S.f3.length c3)) (fun t h1 h2 _ => hk t (by omega))).more (lo' := w.heap.size) (by omega) (Nat.le_of_eq (size4 W9 w.heap.size (.int .i64 S.f0) (.slice a1 S.f1.length c1) (.slice a2 S.f2.length c2) (.slice a3 S.f3.length c3)).symm)
  have h3 := (h3.keep (w' := put4 W9 w.heap.size (.int .i64 S.f0) (.slice a1 S.f1.length c1) (.slice a2 S.f2.length c2) (.slice a3 S.f3.length c3)) (fun t h1 h2 _ => hk t (by omega))).more (lo' := w.heap.size) (by omega) (Nat.le_of_eq (size4 W9 w.heap.size (.int .i64 S.f0) (.slice a1 S.f1.length c1) (.slice a2 S.f2.length c2) (.slice a3 S.f3.length c3)).symm)
  have HF := Lib.hid hL
  have HS : Hid (Rows3 w.heap.size _ _ S a1 c1 a2 c2 a3 c3) := Lib.hid ⟨h1, h2, h3⟩
  clear hk qF qR hL h1 h2 h3
  go_wp2
  refine bodyPost_ret (v := .tuple #[.slice A m d, .agg #[.int .i64 S.f0, .slice a1 S.f1.length c1, .slice a2 S.f2.length c2, .slice a3 S.f3.length c3]]) (by simp [results, Try.results37, go_sem, g0, g1, g2, g3]) rfl ?_
  have hm := HM.out
  subst hm
  exact ⟨A, d, l, S, a1, c1, a2, c2, a3, c3, rfl, HF.out, HS.out, hm17, hle, hwf, hB⟩

/-- A script, a state and a value, drawn. -/
def DrawnStep (w : World) (e : Ending) (w' : World) : Prop :=
  ∃ (A : Option Addr) (d : Nat) (l : List TOp) (S : TState) (a1 : Option Addr) (c1 : Nat) (a2 : Option Addr) (c2 : Nat) (a3 : Option Addr) (c3 : Nat) (v : Int), e = .returned (.tuple #[.slice A l.length d, .agg #[.int .i64 S.f0, .slice a1 S.f1.length c1, .slice a2 S.f2.length c2, .slice a3 S.f3.length c3], .int .i64 v]) ∧
    Lies 0 w'.heap.size w' (dOp l) (.slice A l.length d) ∧ St w' S a1 c1 a2 c2 a3 c3 ∧ l.length ≤ 17 ∧ (S.f1.length ≤ 5 ∧ S.f2.length ≤ 5 ∧ S.f3.length ≤ 5) ∧ (Lit.int .i64 S.f0).wf = true ∧ (Lit.int .i64 v).wf = true ∧ Below w.heap.size w w'

set_option maxHeartbeats 4000000 in
set_option maxRecDepth 100000 in
theorem draw_step (B : Nat) (a : Option Addr) (n c : Nat) (w : World) (hb : Bytes B w a n) (hB : B ≤ w.heap.size) :
    Calls Try.prog 11 #[.slice a n c] w (DrawnStep w) := by
  obtain ⟨W, hW⟩ : ∃ W, w.alloc (.cells #[.int .i64 0, .slice none 0 0, .slice none 0 0, .slice none 0 0] 27) = W := ⟨_, rfl⟩
  have qR : Blk 27 w.heap.size nilS W := by rw [← hW]; exact Blk.new _ [_, _, _, _] w
  have hA : Below w.heap.size w W := by rw [← hW]; exact (Below.refl _ _).alloc (Nat.le_refl _) _
  have hs0 : w.heap.size < W.heap.size := qR.lt
  have hbW : Bytes B W a n := hb.below hA
  have hD := draw_want B a n c W hbW (by omega)
  have HW := Lib.hid hW
  clear hW hb
  go_enter Try.func11, Try.ntmps11
  go_upto_region 1 with fail
  rw [HW.out]
  go_wp2_with fail
  go_at_call 37
  refine hD.mono ?_
  rintro e w1 ⟨A, d, l, S, a1, c1, a2, c2, a3, c3, rfl, hL, hS, hl, hle, hwf, hb1⟩
  have hs1 := hb1.size
  have hB1 := hA.trans (hb1.mono (by omega))
  have qR := qR.below hb1
  have hbB := hbW.below hb1
  obtain ⟨m, hm⟩ : ∃ m, l.length = m := ⟨_, rfl⟩
  have hm17 : m ≤ 17 := by omega
  rw [hm] at hL ⊢
  have HM := Lib.hid hm
  obtain ⟨W2, hW2⟩ : ∃ W2, w1.alloc (.cells #[.int .i64 S.f0, .slice a1 S.f1.length c1, .slice a2 S.f2.length c2, .slice a3 S.f3.length c3] 27) = W2 := ⟨_, rfl⟩
  have hA2 : Below w1.heap.size w1 W2 := by rw [← hW2]; exact (Below.refl _ _).alloc (Nat.le_refl _) _
  have qB : Blk 27 w1.heap.size [.int .i64 S.f0, .slice a1 S.f1.length c1, .slice a2 S.f2.length c2, .slice a3 S.f3.length c3] W2 := by rw [← hW2]; exact Blk.new _ [_, _, _, _] w1
  obtain ⟨q, hq⟩ : ∃ q, w1.heap.size = q := ⟨_, rfl⟩
  have hqr : w.heap.size < q := by omega
  have qR := qR.below hA2
  have hbB := hbB.below hA2
  have hL := hL.below hA2
  have hS := hS.below hA2
  have hB2 := hB1.trans (hA2.mono (by omega))
  have hs2 : q < W2.heap.size := by have := qB.lt; omega
  rw [hq] at qB hL hS
  have HW2 := Lib.hid hW2
  have HQ := Lib.hid hq
  clear hW2 hq hm hB1 hA2 hb1 hbW hA hD hs1 hl
  go_upto_region 2 with fail
  rw [HW2.out, HQ.out]
  go_wp2_with fail
  go_at_call 38
  refine (new_any B a n c _ hbB (by omega)).mono ?_
  rintro e w3 ⟨rfl, hc3, hb3⟩
  have hs3 := hc3.lt
  have qR := qR.below hb3
  have qB := qB.below hb3
  have hL := hL.below hb3
  have hS := hS.below hb3
  have hB3 := hB2.trans (hb3.mono (by omega))
  obtain ⟨p, hp⟩ : ∃ p, W2.heap.size = p := ⟨_, rfl⟩
  rw [hp] at hc3 hs3 hs2 ⊢
  clear hb3 hbB HW2 HQ hp hB2 HW
  have hcd : Cur 89 B p ((w3.alloc (.cells #[.int .i64 0, .int .i64 5, .int .i64 999, .int .i64 1000, .int .i64 (-1), .int .i64 9223372036854775807] 3)).drew) := hc3.below (((Below.refl _ _).alloc (Nat.le_refl _) _).drew)
  have qBd := Blk.drew (qB.alloc (.cells #[.int .i64 0, .int .i64 5, .int .i64 999, .int .i64 1000, .int .i64 (-1), .int .i64 9223372036854775807] 3))
  have qRd := Blk.drew (qR.alloc (.cells #[.int .i64 0, .int .i64 5, .int .i64 999, .int .i64 1000, .int .i64 (-1), .int .i64 9223372036854775807] 3))
  have hLd : Lies W.heap.size q (w3.alloc (.cells #[.int .i64 0, .int .i64 5, .int .i64 999, .int .i64 1000, .int .i64 (-1), .int .i64 9223372036854775807] 3)).drew (dOp l) (.slice A m d) := hL.below (((Below.refl _ _).alloc (Nat.le_refl _) _).drew)
  have hSd : Rows3 W.heap.size q (w3.alloc (.cells #[.int .i64 0, .int .i64 5, .int .i64 999, .int .i64 1000, .int .i64 (-1), .int .i64 9223372036854775807] 3)).drew S a1 c1 a2 c2 a3 c3 := hS.below (((Below.refl _ _).alloc (Nat.le_refl _) _).drew)
  have hBd : Below w.heap.size w (w3.alloc (.cells #[.int .i64 0, .int .i64 5, .int .i64 999, .int .i64 1000, .int .i64 (-1), .int .i64 9223372036854775807] 3)).drew := (hB3.alloc (by omega) _).drew
  have hN := int_any B p w3.heap.size 6 [0, 5, 999, 1000, -1, 9223372036854775807] ((w3.alloc (.cells #[.int .i64 0, .int .i64 5, .int .i64 999, .int .i64 1000, .int .i64 (-1), .int .i64 9223372036854775807] 3)).drew) hcd (by omega) (fun j hj => by
    show (w3.alloc (.cells #[.int .i64 0, .int .i64 5, .int .i64 999, .int .i64 1000, .int .i64 (-1), .int .i64 9223372036854775807] 3)).cell? ⟨w3.heap.size, j, none⟩ = _
    rw [World.cell?_alloc_mark w3 _ _ (0, 0) j]
    have hj3 : j = 0 ∨ j = 1 ∨ j = 2 ∨ j = 3 ∨ j = 4 ∨ j = 5 := by simp at hj; omega
    rcases hj3 with rfl | rfl | rfl | rfl | rfl | rfl <;> rfl) (by decide) (by decide)
  have kd := four (qB.drew)
  have kd2 := four qBd
  have k0 := four qB
  obtain ⟨y0, y1, y2, y3⟩ := k0
  go_wp2_with fail
  go_region_held3 (fun w' => w'.cell? ⟨q, 0, none⟩ = some (.int .i64 S.f0) ∧ w'.cell? ⟨q, 1, none⟩ = some (.slice a1 S.f1.length c1) ∧ w'.cell? ⟨q, 2, none⟩ = some (.slice a2 S.f2.length c2) ∧ w'.cell? ⟨q, 3, none⟩ = some (.slice a3 S.f3.length c3))
    (first | (with_reducible exact kd) | (with_reducible exact kd2) | (with_reducible exact s9) | (with_reducible exact s10) | go_keep)
    (first
    | (go_at_call 39; refine hN.mono ?_; rintro e W9 ⟨⟨z, hz, rfl⟩, hc4, ho4⟩; have qB := ho4.heap qBd (by omega); have qR : Blk 27 w.heap.size nilS W9 := ho4.heap qRd (by omega); have s9 := four qB; have s10 := four (put4_other qB (show q ≠ w.heap.size by omega) (.int .i64 S.f0) (.slice a1 S.f1.length c1) (.slice a2 S.f2.length c2) (.slice a3 S.f3.length c3)); have hwz : (Lit.int .i64 z).wf = true := (by simp at hz; rcases hz with rfl | rfl | rfl | rfl | rfl | rfl <;> decide); have u0 := qR.at (x := 0) rfl; have u1 := qR.at (x := 1) rfl; have u2 := qR.at (x := 2) rfl; have u3 := qR.at (x := 3) rfl; have t0 := qR.free 0; have t1 := qR.free 1; have t2 := qR.free 2; have t3 := qR.free 3))
  all_goals
    have hL := hLd.keep (w' := W9) (fun t h1 h2 h3 => ho4.block t h1 (by omega))
    have hs9 := ho4.size
    rw [gsize_drew, gsize_alloc] at hs9
    have hS := hSd.keep (w' := W9) (fun t h1 h2 h3 => ho4.block t h1 (by omega))
    have hB9 := hBd.trans (ho4.below (B := w.heap.size) (by omega) hBd.size)
    have hk := keep4 W9 w.heap.size (.int .i64 S.f0) (.slice a1 S.f1.length c1) (.slice a2 S.f2.length c2) (.slice a3 S.f3.length c3)
    have hz4 := size4 W9 w.heap.size (.int .i64 S.f0) (.slice a1 S.f1.length c1) (.slice a2 S.f2.length c2) (.slice a3 S.f3.length c3)
    have hB := below4 (r := w.heap.size) hB9 (Nat.le_refl _) (.int .i64 S.f0) (.slice a1 S.f1.length c1) (.slice a2 S.f2.length c2) (.slice a3 S.f3.length c3)
    have qF := (((qR.set 0 (.int .i64 S.f0)).set 1 (.slice a1 S.f1.length c1)).set 2 (.slice a2 S.f2.length c2)).set 3 (.slice a3 S.f3.length c3)
    have g0 := qF.at (x := 0) rfl
    have g1 := qF.at (x := 1) rfl
    have g2 := qF.at (x := 2) rfl
    have g3 := qF.at (x := 3) rfl
    have hS := hS.keep (w' := put4 W9 w.heap.size (.int .i64 S.f0) (.slice a1 S.f1.length c1) (.slice a2 S.f2.length c2) (.slice a3 S.f3.length c3)) (fun t h1 h2 _ => hk t (by omega))
    have hL := (hL.keep (w' := put4 W9 w.heap.size (.int .i64 S.f0) (.slice a1 S.f1.length c1) (.slice a2 S.f2.length c2) (.slice a3 S.f3.length c3)) (fun t h1 h2 _ => hk t (by omega))).more (lo' := 0) (hi' := (put4 W9 w.heap.size (.int .i64 S.f0) (.slice a1 S.f1.length c1) (.slice a2 S.f2.length c2) (.slice a3 S.f3.length c3)).heap.size) (Nat.zero_le _) (by unfold put4; rw [hz4]; omega)
    have HF := Lib.hid hL
    have HS : Hid (St (put4 W9 w.heap.size (.int .i64 S.f0) (.slice a1 S.f1.length c1) (.slice a2 S.f2.length c2) (.slice a3 S.f3.length c3)) S a1 c1 a2 c2 a3 c3) := Lib.hid ⟨hS.r1.more (Nat.zero_le _) (by unfold put4; rw [hz4]; omega), hS.r2.more (Nat.zero_le _) (by unfold put4; rw [hz4]; omega), hS.r3.more (Nat.zero_le _) (by unfold put4; rw [hz4]; omega)⟩
    clear hk hz4 qF hL hS hB9
    go_wp2
    refine bodyPost_ret (v := .tuple #[.slice A m d, .agg #[.int .i64 S.f0, .slice a1 S.f1.length c1, .slice a2 S.f2.length c2, .slice a3 S.f3.length c3], .int .i64 z]) (by simp [results, Try.results11, go_sem, g0, g1, g2, g3]) rfl ?_
    have hm := HM.out
    subst hm
    exact ⟨A, d, l, S, a1, c1, a2, c2, a3, c3, z, rfl, HF.out, HS.out, hm17, hle, hwf, hwz, hB⟩

end Go.Proofs.Ytbohkohccnieiaa.Draw
