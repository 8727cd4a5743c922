/-
  The law FnVisits returns true, and leaves what was there as it was.
  Conditions: the bytes are in memory; the program's functions do as ImplV says.
-/
import Derived.Test.YtagnhfalmefbhaaDrawLive
import Derived.Test.YtagnhfalmefbhaaVisitC
import Derived.Test.YtagnhfalmefbhaaSound
import Derived.Deep.CutBlock
namespace Go.Proofs.Ytagnhfalmefbhaa.FnVisitsW
open Go Go.RowKit Go.Proofs.Ytagnhfalmefbhaa.Mem Go.Proofs.Ytagnhfalmefbhaa.Gen Go.Proofs.Ytagnhfalmefbhaa.Draw Go.Proofs.Ytagnhfalmefbhaa.Res Go.Proofs.Ytagnhfalmefbhaa.Sites Go.Proofs.Ytagnhfalmefbhaa.Visits
set_option linter.unusedVariables false

theorem sum_le {g : Nat → Nat} {k : Nat} : ∀ {n : Nat}, (∀ i, i < n → g i ≤ k) → sumTo g n ≤ k * n
  | 0, _ => Nat.le_refl _
  | n + 1, e => by
    have h1 := sum_le (n := n) fun i hi => e i (by omega)
    have h2 := e n (by omega)
    simp only [sumTo, Nat.mul_add]
    omega
theorem room_brief {l : List TVersion} (h8 : l.length ≤ 8) (hb : Brief l) : room (dVersion l) ≤ 1048576 := by
  have h1 : ∀ i, i < l.length → sumTo (fun x => room ((l.getD i nVersion).c x)) 9 ≤ 7 := fun i hi => by
    have h2 := hb (l.getD i nVersion) (by rw [List.getD_eq_getElem?_getD, List.getElem?_eq_getElem hi]; exact List.getElem_mem _)
    have h3 := room_ints (l.getD i nVersion).f2.f1
    simp only [sumTo, TVersion.c, room] at h3 ⊢
    omega
  have h7 := sum_le (g := fun i => sumTo (fun x => room ((l.getD i nVersion).c x)) 9) (k := 7) (n := l.length) h1
  unfold dVersion
  rw [room_row]
  omega
theorem wfI {z : Int} (h : I64 z) : (Lit.int .i64 z).wf = true := WalkArith.wf_i64 (by unfold I64 at h; omega)
theorem live_none {P : TVisit} {W : TWant} {n : Int} (h : visitB P = false) : liveV P W n = 0 := by unfold liveV atB; rw [h]; rfl
theorem fol_first {l : List TVersion} {t : Int} {A : TAddress} : ∀ {k : Nat} {Q : List TAddress} {r : TResource}, (∃ q, Q = A :: q) → ∃ q, (fol l t k Q r).1 = A :: q
  | 0, Q, r, h => by unfold fol; exact h
  | k + 1, Q, r, ⟨q, e⟩ => by
    unfold fol
    split
    · exact fol_first ⟨q ++ [r.f2], by rw [e]; rfl⟩
    · exact ⟨q, e⟩
theorem ask_yes {P : TVisit} {W : TWant} {n : Int} (hk : W.f0 = 1) (hv : visitB P = true) (hn : inR 0 100 n = true) : ∃ q, askV P W n = W.f1 :: q := by
  unfold askV atB
  rw [hv, hn, if_pos ⟨hk, rfl⟩]
  unfold followed
  exact fol_first ⟨[], rfl⟩
theorem ask_no {P : TVisit} {W : TWant} {n : Int} (h : ¬ (W.f0 = 1 ∧ visitB P = true ∧ inR 0 100 n = true)) : askV P W n = [] := by
  unfold askV atB
  rw [if_neg]
  intro e
  rw [Bool.and_eq_true] at e
  exact h ⟨e.1, e.2.1, e.2.2⟩

set_option maxHeartbeats 8000000 in
set_option maxRecDepth 100000 in
theorem law_walk (KV : ImplV) (a : Option Addr) (n0 c : Nat) (w : World) (hb0 : Bytes w.heap.size w a n0) :
    Calls Try.prog 3 #[.slice a n0 c] w fun e w' => e = .returned (.bool true) ∧ Below w.heap.size w w' := by
  have hn0 := hb0.1
  by_cases hbig : 1048576 < n0
  · go_enter Try.func3, Try.ntmps3
    go_wp2
    go_ret
    exact ⟨rfl, Below.refl _ _⟩
  go_enter Try.func3, Try.ntmps3
  go_wp2_with (go_at_call 8; go_in)
  go_at_call 9
  refine (draw_live _ a n0 c _ hb0 (Nat.le_refl _)).mono ?_
  rintro e w1 ⟨P, a0, c0, a3, c3, W, n, rfl, hL0, hL3, hl8, hbr, hl9, ht, hs, hWA, hWk, hn, hb1⟩
  have hrm := room_brief hl8 hbr
  have hm3 : P.f3.length ≤ 1048576 := by omega
  obtain ⟨W2, hW2⟩ : ∃ Z, (w1.alloc (.cells #[.slice none 0 0, .int .i64 0, .int .i64 0, .slice none 0 0] 27)).alloc (.cells #[.int .i64 0, .int .i64 0, .int .i64 0, .int .i64 0] 31) = Z := ⟨_, rfl⟩
  obtain ⟨bV, hbV⟩ : ∃ b, w1.heap.size = b := ⟨_, rfl⟩
  have q2 : Blk 27 bV [.slice none 0 0, .int .i64 0, .int .i64 0, .slice none 0 0] W2 := by rw [← hW2, ← hbV]; exact (Blk.new _ [_, _, _, _] w1).alloc _
  have q3 : Blk 31 (bV + 1) [.int .i64 0, .int .i64 0, .int .i64 0, .int .i64 0] W2 := by
    have := Blk.new 31 [.int .i64 0, .int .i64 0, .int .i64 0, .int .i64 0] (w1.alloc (.cells #[.slice none 0 0, .int .i64 0, .int .i64 0, .slice none 0 0] 27))
    rw [gsize_alloc] at this
    rw [← hW2, ← hbV]; exact this
  have hA : Below w1.heap.size w1 W2 := by rw [← hW2]; exact ((Below.refl _ _).alloc (Nat.le_refl _) _).alloc (by rw [gsize_alloc]; omega) _
  have hst : VSt w1 P a0 c0 a3 c3 := ⟨hL0, hL3⟩
  have hsw := hA.size
  have hwb := hb1.size
  have HB1 := Lib.hid hb1
  clear hL0 hL3 hb1
  -- what is known of every later world
  obtain ⟨x, hx⟩ : ∃ x, liveV P W n = x := ⟨_, rfl⟩
  obtain ⟨Q, hQ⟩ : ∃ x, askV P W n = x := ⟨_, rfl⟩
  obtain ⟨vB, hvB⟩ : ∃ x, visitB P = x := ⟨_, rfl⟩
  have hx0 := live_in P W n
  have hxn := @live_none P W n
  have hay := @ask_yes P W n
  have han := @ask_no P W n
  have kLive := fun (V : World) (hb : Below w1.heap.size w1 V) => KV.live P W n V a0 c0 a3 c3 (hst.below hb) hrm hm3 (wfI ht) (wfI hs) hWk hWA (wfI hn)
  have kAsk := fun (V : World) (hb : Below w1.heap.size w1 V) => KV.ask P W n V a0 c0 a3 c3 (hst.below hb) hrm hm3 (wfI ht) (wfI hs) hWk hWA (wfI hn)
  have hVis := fun (V : World) (hb : Below w1.heap.size w1 V) => KV.visit P V a0 c0 a3 c3 (hst.below hb) hrm hm3 (wfI ht) (wfI hs)
  have hVisS := fun (V : World) (hb : Below w1.heap.size w1 V) => visit_spec P V a0 c0 a3 c3 (hst.below hb) hrm hm3
  simp only [hbV] at kLive kAsk hVis hVisS hA hsw hwb
  simp only [hx] at kLive hx0 hxn
  simp only [hQ] at kAsk hay han
  simp only [hvB] at hVis hVisS hxn hay han
  obtain ⟨l, t, s, zs⟩ := P
  obtain ⟨k, h1, h2, h3⟩ := W
  dsimp only at *
  obtain ⟨m0, hm0⟩ : ∃ m, l.length = m := ⟨_, rfl⟩
  obtain ⟨m3, hm30⟩ : ∃ m, zs.length = m := ⟨_, rfl⟩
  simp only [hm0, hm30] at kLive kAsk hVis hVisS
  rw [hm0, hm30]
  clear hx hQ hvB hm0 hm30 hst hbr hrm ht hs hWA hWk hl8 hl9 hm3
  have z0 : W2.cell? ⟨bV, 0, none⟩ = some (.slice none 0 0) := q2.at rfl
  have z1 : W2.cell? ⟨bV, 1, none⟩ = some (.int .i64 0) := q2.at rfl
  have z2 : W2.cell? ⟨bV, 2, none⟩ = some (.int .i64 0) := q2.at rfl
  have z3 : W2.cell? ⟨bV, 3, none⟩ = some (.slice none 0 0) := q2.at rfl
  have f0 := q2.free 0
  have f1 := q2.free 1
  have f2 := q2.free 2
  have f3 := q2.free 3
  have y0 : W2.cell? ⟨bV + 1, 0, none⟩ = some (.int .i64 0) := q3.at rfl
  have y1 : W2.cell? ⟨bV + 1, 1, none⟩ = some (.int .i64 0) := q3.at rfl
  have y2 : W2.cell? ⟨bV + 1, 2, none⟩ = some (.int .i64 0) := q3.at rfl
  have y3 : W2.cell? ⟨bV + 1, 3, none⟩ = some (.int .i64 0) := q3.at rfl
  have g0 := q3.free 0
  have g1 := q3.free 1
  have g2 := q3.free 2
  have g3 := q3.free 3
  obtain ⟨W3, hW3⟩ : ∃ U, ((((((((W2.setCell ⟨bV, 0, none⟩ (.slice a0 m0 c0)).setCell ⟨bV, 1, none⟩ (.int .i64 t)).setCell ⟨bV, 2, none⟩ (.int .i64 s)).setCell ⟨bV, 3, none⟩ (.slice a3 m3 c3)).setCell ⟨bV + 1, 0, none⟩ (.int .i64 k)).setCell ⟨bV + 1, 1, none⟩ (.int .i64 h1)).setCell ⟨bV + 1, 2, none⟩ (.int .i64 h2)).setCell ⟨bV + 1, 3, none⟩ (.int .i64 h3)) = U := ⟨_, rfl⟩
  have qV : Blk 27 bV [.slice a0 m0 c0, .int .i64 t, .int .i64 s, .slice a3 m3 c3] W3 := by
    have q := ((((q2.set 0 (.slice a0 m0 c0)).set 1 (.int .i64 t)).set 2 (.int .i64 s)).set 3 (.slice a3 m3 c3))
    simp only [List.set_cons_zero, List.set_cons_succ] at q
    rw [← hW3]; exact ((((q.other (a := ⟨bV + 1, 0, none⟩) (.int .i64 k) (by dsimp only; omega)).other (a := ⟨bV + 1, 1, none⟩) (.int .i64 h1) (by dsimp only; omega)).other (a := ⟨bV + 1, 2, none⟩) (.int .i64 h2) (by dsimp only; omega)).other (a := ⟨bV + 1, 3, none⟩) (.int .i64 h3) (by dsimp only; omega))
  have qW : Blk 31 (bV + 1) [.int .i64 k, .int .i64 h1, .int .i64 h2, .int .i64 h3] W3 := by
    have q := ((((q3.other (a := ⟨bV, 0, none⟩) (.slice a0 m0 c0) (by dsimp only; omega)).other (a := ⟨bV, 1, none⟩) (.int .i64 t) (by dsimp only; omega)).other (a := ⟨bV, 2, none⟩) (.int .i64 s) (by dsimp only; omega)).other (a := ⟨bV, 3, none⟩) (.slice a3 m3 c3) (by dsimp only; omega))
    have q := ((((q.set 0 (.int .i64 k)).set 1 (.int .i64 h1)).set 2 (.int .i64 h2)).set 3 (.int .i64 h3))
    simp only [List.set_cons_zero, List.set_cons_succ] at q
    rw [← hW3]; exact q
  have hA3 : Below bV W2 W3 := by rw [← hW3]; exact (((((((((Below.refl bV W2).setCell (p := ⟨bV, 0, none⟩) (Nat.le_refl _) (.slice a0 m0 c0)).setCell (p := ⟨bV, 1, none⟩) (Nat.le_refl _) (.int .i64 t)).setCell (p := ⟨bV, 2, none⟩) (Nat.le_refl _) (.int .i64 s)).setCell (p := ⟨bV, 3, none⟩) (Nat.le_refl _) (.slice a3 m3 c3)).setCell (p := ⟨bV + 1, 0, none⟩) (Nat.le_succ _) (.int .i64 k)).setCell (p := ⟨bV + 1, 1, none⟩) (Nat.le_succ _) (.int .i64 h1)).setCell (p := ⟨bV + 1, 2, none⟩) (Nat.le_succ _) (.int .i64 h2)).setCell (p := ⟨bV + 1, 3, none⟩) (Nat.le_succ _) (.int .i64 h3))
  have hB3 : Below bV w1 W3 := hA.trans hA3
  have hz3 : bV + 2 ≤ W3.heap.size := qW.lt
  go_upto_region 4 with fail
  try rw [hW3]
  clear hW3 hA3 hA q2 q3 z0 z1 z2 z3 f0 f1 f2 f3 y0 y1 y2 y3 g0 g1 g2 g3
  have x0 : W3.cell? ⟨bV, 0, none⟩ = some (.slice a0 m0 c0) := qV.at rfl
  have x1 : W3.cell? ⟨bV, 1, none⟩ = some (.int .i64 t) := qV.at rfl
  have x2 : W3.cell? ⟨bV, 2, none⟩ = some (.int .i64 s) := qV.at rfl
  have x3 : W3.cell? ⟨bV, 3, none⟩ = some (.slice a3 m3 c3) := qV.at rfl
  have y0 : W3.cell? ⟨bV + 1, 0, none⟩ = some (.int .i64 k) := qW.at rfl
  have y1 : W3.cell? ⟨bV + 1, 1, none⟩ = some (.int .i64 h1) := qW.at rfl
  have y2 : W3.cell? ⟨bV + 1, 2, none⟩ = some (.int .i64 h2) := qW.at rfl
  have y3 : W3.cell? ⟨bV + 1, 3, none⟩ = some (.int .i64 h3) := qW.at rfl
  have kL := kLive W3 hB3
  go_wp2_with fail
  go_at_call 10
  refine kL.mono ?_
  rintro e w4 ⟨rfl, hy⟩
  have qV := qV.below hy
  have qW := qW.below hy
  have hB := hB3.trans (hy.mono (by omega))
  have hz := Nat.le_trans hz3 hy.size
  clear x0 x1 x2 x3 y0 y1 y2 y3 kL kLive hy hB3 hz3
  go_upto_region 5 with fail
  obtain ⟨V4, hV4⟩ : ∃ U, w4.drew = U := ⟨_, rfl⟩
  have hA : Below w4.heap.size w4 V4 := by rw [← hV4]; exact gbelow_drewN (Below.refl _ _) 1
  have qV := qV.below hA
  have qW := qW.below hA
  have hB4 := hB.trans (hA.mono (by omega))
  have s9 : V4.cell? ⟨bV, 0, none⟩ = some (.slice a0 m0 c0) ∧ V4.cell? ⟨bV, 1, none⟩ = some (.int .i64 t) ∧ V4.cell? ⟨bV, 2, none⟩ = some (.int .i64 s) ∧ V4.cell? ⟨bV, 3, none⟩ = some (.slice a3 m3 c3) := ⟨qV.at rfl, qV.at rfl, qV.at rfl, qV.at rfl⟩
  clear hA
  have hvv : (vB != vB) = false := by cases vB <;> rfl
  refine wp_region_held_drew (S := (fun w' => w'.cell? ⟨bV, 0, none⟩ = some (.slice a0 m0 c0) ∧ w'.cell? ⟨bV, 1, none⟩ = some (.int .i64 t) ∧ w'.cell? ⟨bV, 2, none⟩ = some (.int .i64 s) ∧ w'.cell? ⟨bV, 3, none⟩ = some (.slice a3 m3 c3))) (by kernel_rfl) (by rw [hV4]; exact s9) (fun hHeld => ?_)
  rw [hV4]
  clear hV4
  refine wpAnyH_take (i := 0) (v := ?vf0) (List.getElem?_toArray.trans rfl) (by kernel_rfl) (by kernel_rfl) (by kernel_rfl) (fun _ _ _ h => h) (Or.inl ⟨by rfl, ?yf0⟩) (by assumption) ?rf0
  case yf0 => (intro w hSw; (try dsimp only at hSw); go_simp; try with_reducible rfl)
  try simp only [Act.put, List.setIfInBounds_toArray, List.set_cons_zero, List.set_cons_succ]
  refine wpAnyH_take (i := 2) (v := ?vf2) (List.getElem?_toArray.trans rfl) (by kernel_rfl) (by kernel_rfl) (by kernel_rfl) (fun _ _ _ h => h) (Or.inl ⟨by rfl, ?yf2⟩) (by assumption) ?rf2
  case yf2 => (intro w hSw; (try dsimp only at hSw); go_simp; try with_reducible rfl)
  try simp only [Act.put, List.setIfInBounds_toArray, List.set_cons_zero, List.set_cons_succ]
  refine wpAnyH_ready (rs := [1]) (by kernel_rfl) (by simp) ?_
  refine AllReadyH.cons (List.getElem?_toArray.trans rfl) (fun K hK => ?_) AllReadyH.nil
  go_simp
  have qV4 := qV
  go_at_call 11
  refine (hVis V4 hB4).mono ?_
  rintro e w5 ⟨rfl, hy⟩
  have qV := qV.below hy
  have qW := qW.below hy
  have hB5 := hB4.trans (hy.mono (by have := qV4.lt; omega))
  clear hy
  have s9 : w5.cell? ⟨bV, 0, none⟩ = some (.slice a0 m0 c0) ∧ w5.cell? ⟨bV, 1, none⟩ = some (.int .i64 t) ∧ w5.cell? ⟨bV, 2, none⟩ = some (.int .i64 s) ∧ w5.cell? ⟨bV, 3, none⟩ = some (.slice a3 m3 c3) := ⟨qV.at rfl, qV.at rfl, qV.at rfl, qV.at rfl⟩
  refine hK.out _ _ s9 (fun hHeld => ?_)
  clear hK K
  try simp only [Act.put, List.setIfInBounds_toArray, List.set_cons_zero, List.set_cons_succ]
  refine wpAnyH_ready (rs := [3]) (by kernel_rfl) (by simp) ?_
  refine AllReadyH.cons (List.getElem?_toArray.trans rfl) (fun K hK => ?_) AllReadyH.nil
  go_simp
  have qV5 := qV
  go_at_call 12
  refine (hVisS w5 hB5).mono ?_
  rintro e w6 ⟨rfl, hy⟩
  have qV := qV.below hy
  have qW := qW.below hy
  have hB6 := hB5.trans (hy.mono (by have := qV5.lt; omega))
  clear hy
  have s9 : w6.cell? ⟨bV, 0, none⟩ = some (.slice a0 m0 c0) ∧ w6.cell? ⟨bV, 1, none⟩ = some (.int .i64 t) ∧ w6.cell? ⟨bV, 2, none⟩ = some (.int .i64 s) ∧ w6.cell? ⟨bV, 3, none⟩ = some (.slice a3 m3 c3) := ⟨qV.at rfl, qV.at rfl, qV.at rfl, qV.at rfl⟩
  refine hK.out _ _ s9 (fun hHeld => ?_)
  clear hK K
  try simp only [Act.put, List.setIfInBounds_toArray, List.set_cons_zero, List.set_cons_succ]
  refine wpAnyH_take (i := 4) (v := ?vf4) (List.getElem?_toArray.trans rfl) (by kernel_rfl) (by kernel_rfl) (by kernel_rfl) (fun _ _ _ h => h) (Or.inl ⟨by rfl, ?yf4⟩) (by assumption) ?rf4
  case yf4 => (intro w hSw; (try dsimp only at hSw); go_simp; try with_reducible rfl)
  try simp only [Act.put, List.setIfInBounds_toArray, List.set_cons_zero, List.set_cons_succ]
  refine wpAnyH_done (by kernel_rfl) ?_ _
  clear s9
  have hz6 : bV + 2 ≤ w6.heap.size := qW.lt
  go_upto_region 7 with fail
  go_cut [41] (fun s wx => s = .bool false ∧ Below (bV + 2) w6 wx)
  case first =>
    have hd1 : decide (x < 0) = false := by rw [decide_eq_false_iff_not]; omega
    have hd2 : decide (x > 999) = false := by rw [decide_eq_false_iff_not]; omega
    have hd3 : decide (999 < x) = false := hd2
    have x0 : w6.cell? ⟨bV, 0, none⟩ = some (.slice a0 m0 c0) := qV.at rfl
    have x1 : w6.cell? ⟨bV, 1, none⟩ = some (.int .i64 t) := qV.at rfl
    have x2 : w6.cell? ⟨bV, 2, none⟩ = some (.int .i64 s) := qV.at rfl
    have x3 : w6.cell? ⟨bV, 3, none⟩ = some (.slice a3 m3 c3) := qV.at rfl
    have kv := hVis w6 hB6
    go_wp2_with fail
    go_at_call 11
    refine kv.mono ?_
    rintro e w7 ⟨rfl, hy⟩
    have hy2 := hy.mono hz6
    clear kv x0 x1 x2 x3
    cases vB
    · have hx00 := hxn rfl
      subst hx00
      go_wp2_with fail
      go_meet
      case rel => exact ⟨rfl, hy2⟩
    · go_wp2_with fail
      go_meet
      case rel => exact ⟨rfl, hy2⟩
  case rest =>
  obtain ⟨rfl, hy⟩ := hcut
  have qV := qV.under hy (by omega)
  have qW := qW.under hy (by omega)
  have hB := hB6.trans (hy.mono (by omega))
  have hz := Nat.le_trans hz6 hy.size
  clear hy hB6 hz6 hvv
  -- the addresses that are asked
  have x0 : wc.cell? ⟨bV, 0, none⟩ = some (.slice a0 m0 c0) := qV.at rfl
  have x1 : wc.cell? ⟨bV, 1, none⟩ = some (.int .i64 t) := qV.at rfl
  have x2 : wc.cell? ⟨bV, 2, none⟩ = some (.int .i64 s) := qV.at rfl
  have x3 : wc.cell? ⟨bV, 3, none⟩ = some (.slice a3 m3 c3) := qV.at rfl
  have y0 : wc.cell? ⟨bV + 1, 0, none⟩ = some (.int .i64 k) := qW.at rfl
  have y1 : wc.cell? ⟨bV + 1, 1, none⟩ = some (.int .i64 h1) := qW.at rfl
  have y2 : wc.cell? ⟨bV + 1, 2, none⟩ = some (.int .i64 h2) := qW.at rfl
  have y3 : wc.cell? ⟨bV + 1, 3, none⟩ = some (.int .i64 h3) := qW.at rfl
  have kA := kAsk wc hB
  go_wp2_with fail
  go_at_call 13
  refine kA.mono ?_
  rintro e w9 ⟨qx, qy, SQ, rfl, oQ, uQ, hy⟩
  have qV := qV.below hy
  have qW := qW.below hy
  have hB := hB.trans (hy.mono (by omega))
  have hz := Nat.le_trans hz hy.size
  clear hy x0 x1 x2 x3 y0 y1 y2 y3 kA kAsk
  obtain ⟨m, hm⟩ : ∃ m, Q.length = m := ⟨_, rfl⟩
  rw [hm]
  have HM := Lib.hid hm
  have hm2 := hm
  clear hm
  go_upto_region 10 with fail
  go_cut [77] (fun s wx => s = .bool false ∧ Below (bV + 2) w9 wx)
  case first =>
    obtain ⟨U4, hU4⟩ : ∃ U, w9.drew = U := ⟨_, rfl⟩
    have hC : Below (bV + 2) w9 U4 := by rw [← hU4]; exact gbelow_drewN (Below.refl _ _) 1
    have hA : Below w9.heap.size w9 U4 := by rw [← hU4]; exact gbelow_drewN (Below.refl _ _) 1
    have qV := qV.below hA
    have qW := qW.below hA
    have hB := hB.trans (hA.mono (by omega))
    have hz := Nat.le_trans hz hA.size
    by_cases k1 : k = 1
    · subst k1
      cases vB with
      | false =>
        have hQ0 := han (by simp)
        rw [hQ0] at hm2
        have hm0 : m = 0 := hm2.symm
        subst hm0
        clear oQ hay han hm2 hxn hA
        have s9 : U4.cell? ⟨bV, 0, none⟩ = some (.slice a0 m0 c0) ∧ U4.cell? ⟨bV, 1, none⟩ = some (.int .i64 t) ∧ U4.cell? ⟨bV, 2, none⟩ = some (.int .i64 s) ∧ U4.cell? ⟨bV, 3, none⟩ = some (.slice a3 m3 c3) ∧ U4.cell? ⟨bV + 1, 0, none⟩ = some (.int .i64 1) ∧ U4.cell? ⟨bV + 1, 1, none⟩ = some (.int .i64 h1) ∧ U4.cell? ⟨bV + 1, 2, none⟩ = some (.int .i64 h2) ∧ U4.cell? ⟨bV + 1, 3, none⟩ = some (.int .i64 h3) := ⟨qV.at rfl, qV.at rfl, qV.at rfl, qV.at rfl, qW.at rfl, qW.at rfl, qW.at rfl, qW.at rfl⟩
        refine wp_region_held_drew (S := (fun w' => w'.cell? ⟨bV, 0, none⟩ = some (.slice a0 m0 c0) ∧ w'.cell? ⟨bV, 1, none⟩ = some (.int .i64 t) ∧ w'.cell? ⟨bV, 2, none⟩ = some (.int .i64 s) ∧ w'.cell? ⟨bV, 3, none⟩ = some (.slice a3 m3 c3) ∧ w'.cell? ⟨bV + 1, 0, none⟩ = some (.int .i64 1) ∧ w'.cell? ⟨bV + 1, 1, none⟩ = some (.int .i64 h1) ∧ w'.cell? ⟨bV + 1, 2, none⟩ = some (.int .i64 h2) ∧ w'.cell? ⟨bV + 1, 3, none⟩ = some (.int .i64 h3))) (by kernel_rfl) (by rw [hU4]; exact s9) (fun hHeld => ?_)
        rw [hU4]
        clear hU4
        refine wpAnyH_take (i := 0) (v := ?vgbad0) (List.getElem?_toArray.trans rfl) (by kernel_rfl) (by kernel_rfl) (by kernel_rfl) (fun _ _ _ h => h) (Or.inl ⟨by rfl, ?ygbad0⟩) (by assumption) ?rgbad0
        case ygbad0 => (intro w hSw; (try dsimp only at hSw); go_simp; try with_reducible rfl)
        try simp only [Act.put, List.setIfInBounds_toArray, List.set_cons_zero, List.set_cons_succ]
        refine wpAnyH_take (i := 1) (v := ?vgbad1) (List.getElem?_toArray.trans rfl) (by kernel_rfl) (by kernel_rfl) (by kernel_rfl) (fun _ _ _ h => h) (Or.inl ⟨by rfl, ?ygbad1⟩) (by assumption) ?rgbad1
        case ygbad1 => (intro w hSw; (try dsimp only at hSw); go_simp; try with_reducible rfl)
        try simp only [Act.put, List.setIfInBounds_toArray, List.set_cons_zero, List.set_cons_succ]
        refine wpAnyH_take (i := 2) (v := ?vgbad2) (List.getElem?_toArray.trans rfl) (by kernel_rfl) (by kernel_rfl) (by kernel_rfl) (fun _ _ _ h => h) (Or.inl ⟨by rfl, ?ygbad2⟩) (by assumption) ?rgbad2
        case ygbad2 => (intro w hSw; (try dsimp only at hSw); go_simp; try with_reducible rfl)
        try simp only [Act.put, List.setIfInBounds_toArray, List.set_cons_zero, List.set_cons_succ]
        refine wpAnyH_take (i := 3) (v := ?vgbad3) (List.getElem?_toArray.trans rfl) (by kernel_rfl) (by kernel_rfl) (by kernel_rfl) (fun _ _ _ h => h) (Or.inl ⟨by rfl, ?ygbad3⟩) (by assumption) ?rgbad3
        case ygbad3 => (intro w hSw; (try dsimp only at hSw); go_simp; try with_reducible rfl)
        try simp only [Act.put, List.setIfInBounds_toArray, List.set_cons_zero, List.set_cons_succ]
        refine wpAnyH_take (i := 4) (v := ?vgbad4) (List.getElem?_toArray.trans rfl) (by kernel_rfl) (by kernel_rfl) (by kernel_rfl) (fun _ _ _ h => h) (Or.inl ⟨by rfl, ?ygbad4⟩) (by assumption) ?rgbad4
        case ygbad4 => (intro w hSw; (try dsimp only at hSw); go_simp; try with_reducible rfl)
        try simp only [Act.put, List.setIfInBounds_toArray, List.set_cons_zero, List.set_cons_succ]
        refine wpAnyH_take (i := 5) (v := ?vgbad5) (List.getElem?_toArray.trans rfl) (by kernel_rfl) (by kernel_rfl) (by kernel_rfl) (fun _ _ _ h => h) (Or.inl ⟨by rfl, ?ygbad5⟩) (by assumption) ?rgbad5
        case ygbad5 => (intro w hSw; (try dsimp only at hSw); go_simp; try with_reducible rfl)
        try simp only [Act.put, List.setIfInBounds_toArray, List.set_cons_zero, List.set_cons_succ]
        refine wpAnyH_take (i := 6) (v := ?vgbad6) (List.getElem?_toArray.trans rfl) (by kernel_rfl) (by kernel_rfl) (by kernel_rfl) (fun _ _ _ h => h) (Or.inl ⟨by rfl, ?ygbad6⟩) (by assumption) ?rgbad6
        case ygbad6 => (intro w hSw; (try dsimp only at hSw); go_simp; try with_reducible rfl)
        try simp only [Act.put, List.setIfInBounds_toArray, List.set_cons_zero, List.set_cons_succ]
        refine wpAnyH_take (i := 7) (v := ?vgbad7) (List.getElem?_toArray.trans rfl) (by kernel_rfl) (by kernel_rfl) (by kernel_rfl) (fun _ _ _ h => h) (Or.inl ⟨by rfl, ?ygbad7⟩) (by assumption) ?rgbad7
        case ygbad7 => (intro w hSw; (try dsimp only at hSw); go_simp; try with_reducible rfl)
        try simp only [Act.put, List.setIfInBounds_toArray, List.set_cons_zero, List.set_cons_succ]
        refine wpAnyH_ready (rs := [8]) (by kernel_rfl) (by simp) ?_
        refine AllReadyH.cons (List.getElem?_toArray.trans rfl) (fun K hK => ?_) AllReadyH.nil
        go_simp
        go_at_call 11
        refine (hVis U4 hB).mono ?_
        rintro e u5 ⟨rfl, hy⟩
        have qV := qV.below hy
        have qW := qW.below hy
        have hB := hB.trans (hy.mono (by omega))
        have hC := hC.trans (hy.mono (by omega))
        have hz := Nat.le_trans hz hy.size
        clear hy
        have s9 : u5.cell? ⟨bV, 0, none⟩ = some (.slice a0 m0 c0) ∧ u5.cell? ⟨bV, 1, none⟩ = some (.int .i64 t) ∧ u5.cell? ⟨bV, 2, none⟩ = some (.int .i64 s) ∧ u5.cell? ⟨bV, 3, none⟩ = some (.slice a3 m3 c3) ∧ u5.cell? ⟨bV + 1, 0, none⟩ = some (.int .i64 1) ∧ u5.cell? ⟨bV + 1, 1, none⟩ = some (.int .i64 h1) ∧ u5.cell? ⟨bV + 1, 2, none⟩ = some (.int .i64 h2) ∧ u5.cell? ⟨bV + 1, 3, none⟩ = some (.int .i64 h3) := ⟨qV.at rfl, qV.at rfl, qV.at rfl, qV.at rfl, qW.at rfl, qW.at rfl, qW.at rfl, qW.at rfl⟩
        refine hK.out _ _ s9 (fun hHeld => ?_)
        clear hK K
        try simp only [Act.put, List.setIfInBounds_toArray, List.set_cons_zero, List.set_cons_succ]
        refine wpAnyH_take (i := 9) (v := ?vgbad9) (List.getElem?_toArray.trans rfl) (by kernel_rfl) (by kernel_rfl) (by kernel_rfl) (fun _ _ _ h => h) (Or.inl ⟨by rfl, ?ygbad9⟩) (by assumption) ?rgbad9
        case ygbad9 => (intro w hSw; (try dsimp only at hSw); go_simp; try with_reducible rfl)
        try simp only [Act.put, List.setIfInBounds_toArray, List.set_cons_zero, List.set_cons_succ]
        refine wpAnyH_take (i := 10) (v := ?vgbad10) (List.getElem?_toArray.trans rfl) (by kernel_rfl) (by kernel_rfl) (by kernel_rfl) (fun _ _ _ h => h) (Or.inl ⟨by rfl, ?ygbad10⟩) (by assumption) ?rgbad10
        case ygbad10 => (intro w hSw; (try dsimp only at hSw); go_simp; try with_reducible rfl)
        try simp only [Act.put, List.setIfInBounds_toArray, List.set_cons_zero, List.set_cons_succ]
        refine wpAnyH_take (i := 11) (v := undef) (List.getElem?_toArray.trans rfl) (by kernel_rfl) (by kernel_rfl) (by kernel_rfl) (fun _ _ _ h => h) (Or.inr ⟨by first | (simp [Region.wanted, yielded]; done) | simp [Region.wanted, yielded, undef], rfl⟩) (by assumption) ?_
        try simp only [Act.put, List.setIfInBounds_toArray, List.set_cons_zero, List.set_cons_succ]
        refine wpAnyH_take (i := 12) (v := undef) (List.getElem?_toArray.trans rfl) (by kernel_rfl) (by kernel_rfl) (by kernel_rfl) (fun _ _ _ h => h) (Or.inr ⟨by first | (simp [Region.wanted, yielded]; done) | simp [Region.wanted, yielded, undef], rfl⟩) (by assumption) ?_
        try simp only [Act.put, List.setIfInBounds_toArray, List.set_cons_zero, List.set_cons_succ]
        refine wpAnyH_take (i := 13) (v := ?vgbad13) (List.getElem?_toArray.trans rfl) (by kernel_rfl) (by kernel_rfl) (by kernel_rfl) (fun _ _ _ h => h) (Or.inl ⟨by rfl, ?ygbad13⟩) (by assumption) ?rgbad13
        case ygbad13 => (intro w hSw; (try dsimp only at hSw); go_simp; try with_reducible rfl)
        try simp only [Act.put, List.setIfInBounds_toArray, List.set_cons_zero, List.set_cons_succ]
        refine wpAnyH_take (i := 14) (v := ?vgbad14) (List.getElem?_toArray.trans rfl) (by kernel_rfl) (by kernel_rfl) (by kernel_rfl) (fun _ _ _ h => h) (Or.inl ⟨by rfl, ?ygbad14⟩) (by assumption) ?rgbad14
        case ygbad14 => (intro w hSw; (try dsimp only at hSw); go_simp; try with_reducible rfl)
        try simp only [Act.put, List.setIfInBounds_toArray, List.set_cons_zero, List.set_cons_succ]
        refine wpAnyH_take (i := 15) (v := undef) (List.getElem?_toArray.trans rfl) (by kernel_rfl) (by kernel_rfl) (by kernel_rfl) (fun _ _ _ h => h) (Or.inr ⟨by first | (simp [Region.wanted, yielded]; done) | simp [Region.wanted, yielded, undef], rfl⟩) (by assumption) ?_
        try simp only [Act.put, List.setIfInBounds_toArray, List.set_cons_zero, List.set_cons_succ]
        refine wpAnyH_take (i := 16) (v := undef) (List.getElem?_toArray.trans rfl) (by kernel_rfl) (by kernel_rfl) (by kernel_rfl) (fun _ _ _ h => h) (Or.inr ⟨by first | (simp [Region.wanted, yielded]; done) | simp [Region.wanted, yielded, undef], rfl⟩) (by assumption) ?_
        try simp only [Act.put, List.setIfInBounds_toArray, List.set_cons_zero, List.set_cons_succ]
        refine wpAnyH_take (i := 17) (v := ?vgbad17) (List.getElem?_toArray.trans rfl) (by kernel_rfl) (by kernel_rfl) (by kernel_rfl) (fun _ _ _ h => h) (Or.inl ⟨by rfl, ?ygbad17⟩) (by assumption) ?rgbad17
        case ygbad17 => (intro w hSw; (try dsimp only at hSw); go_simp; try with_reducible rfl)
        try simp only [Act.put, List.setIfInBounds_toArray, List.set_cons_zero, List.set_cons_succ]
        refine wpAnyH_take (i := 18) (v := ?vgbad18) (List.getElem?_toArray.trans rfl) (by kernel_rfl) (by kernel_rfl) (by kernel_rfl) (fun _ _ _ h => h) (Or.inl ⟨by rfl, ?ygbad18⟩) (by assumption) ?rgbad18
        case ygbad18 => (intro w hSw; (try dsimp only at hSw); go_simp; try with_reducible rfl)
        try simp only [Act.put, List.setIfInBounds_toArray, List.set_cons_zero, List.set_cons_succ]
        refine wpAnyH_take (i := 19) (v := ?vgbad19) (List.getElem?_toArray.trans rfl) (by kernel_rfl) (by kernel_rfl) (by kernel_rfl) (fun _ _ _ h => h) (Or.inl ⟨by rfl, ?ygbad19⟩) (by assumption) ?rgbad19
        case ygbad19 => (intro w hSw; (try dsimp only at hSw); go_simp; try with_reducible rfl)
        try simp only [Act.put, List.setIfInBounds_toArray, List.set_cons_zero, List.set_cons_succ]
        refine wpAnyH_take (i := 20) (v := ?vgbad20) (List.getElem?_toArray.trans rfl) (by kernel_rfl) (by kernel_rfl) (by kernel_rfl) (fun _ _ _ h => h) (Or.inl ⟨by rfl, ?ygbad20⟩) (by assumption) ?rgbad20
        case ygbad20 => (intro w hSw; (try dsimp only at hSw); go_simp; try with_reducible rfl)
        try simp only [Act.put, List.setIfInBounds_toArray, List.set_cons_zero, List.set_cons_succ]
        refine wpAnyH_take (i := 21) (v := ?vgbad21) (List.getElem?_toArray.trans rfl) (by kernel_rfl) (by kernel_rfl) (by kernel_rfl) (fun _ _ _ h => h) (Or.inl ⟨by rfl, ?ygbad21⟩) (by assumption) ?rgbad21
        case ygbad21 => (intro w hSw; (try dsimp only at hSw); go_simp; try with_reducible rfl)
        try simp only [Act.put, List.setIfInBounds_toArray, List.set_cons_zero, List.set_cons_succ]
        refine wpAnyH_take (i := 22) (v := ?vgbad22) (List.getElem?_toArray.trans rfl) (by kernel_rfl) (by kernel_rfl) (by kernel_rfl) (fun _ _ _ h => h) (Or.inl ⟨by rfl, ?ygbad22⟩) (by assumption) ?rgbad22
        case ygbad22 => (intro w hSw; (try dsimp only at hSw); go_simp; try with_reducible rfl)
        try simp only [Act.put, List.setIfInBounds_toArray, List.set_cons_zero, List.set_cons_succ]
        refine wpAnyH_take (i := 23) (v := ?vgbad23) (List.getElem?_toArray.trans rfl) (by kernel_rfl) (by kernel_rfl) (by kernel_rfl) (fun _ _ _ h => h) (Or.inl ⟨by rfl, ?ygbad23⟩) (by assumption) ?rgbad23
        case ygbad23 => (intro w hSw; (try dsimp only at hSw); go_simp; try with_reducible rfl)
        try simp only [Act.put, List.setIfInBounds_toArray, List.set_cons_zero, List.set_cons_succ]
        refine wpAnyH_take (i := 24) (v := undef) (List.getElem?_toArray.trans rfl) (by kernel_rfl) (by kernel_rfl) (by kernel_rfl) (fun _ _ _ h => h) (Or.inr ⟨by first | (simp [Region.wanted, yielded]; done) | simp [Region.wanted, yielded, undef], rfl⟩) (by assumption) ?_
        try simp only [Act.put, List.setIfInBounds_toArray, List.set_cons_zero, List.set_cons_succ]
        refine wpAnyH_take (i := 25) (v := undef) (List.getElem?_toArray.trans rfl) (by kernel_rfl) (by kernel_rfl) (by kernel_rfl) (fun _ _ _ h => h) (Or.inr ⟨by first | (simp [Region.wanted, yielded]; done) | simp [Region.wanted, yielded, undef], rfl⟩) (by assumption) ?_
        try simp only [Act.put, List.setIfInBounds_toArray, List.set_cons_zero, List.set_cons_succ]
        refine wpAnyH_take (i := 26) (v := undef) (List.getElem?_toArray.trans rfl) (by kernel_rfl) (by kernel_rfl) (by kernel_rfl) (fun _ _ _ h => h) (Or.inr ⟨by first | (simp [Region.wanted, yielded]; done) | simp [Region.wanted, yielded, undef], rfl⟩) (by assumption) ?_
        try simp only [Act.put, List.setIfInBounds_toArray, List.set_cons_zero, List.set_cons_succ]
        refine wpAnyH_take (i := 27) (v := undef) (List.getElem?_toArray.trans rfl) (by kernel_rfl) (by kernel_rfl) (by kernel_rfl) (fun _ _ _ h => h) (Or.inr ⟨by first | (simp [Region.wanted, yielded]; done) | simp [Region.wanted, yielded, undef], rfl⟩) (by assumption) ?_
        try simp only [Act.put, List.setIfInBounds_toArray, List.set_cons_zero, List.set_cons_succ]
        refine wpAnyH_take (i := 28) (v := undef) (List.getElem?_toArray.trans rfl) (by kernel_rfl) (by kernel_rfl) (by kernel_rfl) (fun _ _ _ h => h) (Or.inr ⟨by first | (simp [Region.wanted, yielded]; done) | simp [Region.wanted, yielded, undef], rfl⟩) (by assumption) ?_
        try simp only [Act.put, List.setIfInBounds_toArray, List.set_cons_zero, List.set_cons_succ]
        refine wpAnyH_take (i := 29) (v := undef) (List.getElem?_toArray.trans rfl) (by kernel_rfl) (by kernel_rfl) (by kernel_rfl) (fun _ _ _ h => h) (Or.inr ⟨by first | (simp [Region.wanted, yielded]; done) | simp [Region.wanted, yielded, undef], rfl⟩) (by assumption) ?_
        try simp only [Act.put, List.setIfInBounds_toArray, List.set_cons_zero, List.set_cons_succ]
        refine wpAnyH_take (i := 30) (v := ?vgbad30) (List.getElem?_toArray.trans rfl) (by kernel_rfl) (by kernel_rfl) (by kernel_rfl) (fun _ _ _ h => h) (Or.inl ⟨by rfl, ?ygbad30⟩) (by assumption) ?rgbad30
        case ygbad30 => (intro w hSw; (try dsimp only at hSw); go_simp; try with_reducible rfl)
        try simp only [Act.put, List.setIfInBounds_toArray, List.set_cons_zero, List.set_cons_succ]
        refine wpAnyH_take (i := 31) (v := ?vgbad31) (List.getElem?_toArray.trans rfl) (by kernel_rfl) (by kernel_rfl) (by kernel_rfl) (fun _ _ _ h => h) (Or.inl ⟨by rfl, ?ygbad31⟩) (by assumption) ?rgbad31
        case ygbad31 => (intro w hSw; (try dsimp only at hSw); go_simp; try with_reducible rfl)
        try simp only [Act.put, List.setIfInBounds_toArray, List.set_cons_zero, List.set_cons_succ]
        refine wpAnyH_done (by kernel_rfl) ?_ _
        clear s9
        go_wp2_with fail
        go_meet
        case rel => exact ⟨rfl, hC⟩
      | true =>
        by_cases n00 : 0 ≤ n
        · by_cases n100 : n ≤ 100
          · obtain ⟨q, hq⟩ := hay rfl rfl (inR_yes n00 n100)
            obtain ⟨A9, C9, e9, _, _, f9⟩ := oQ
            injection e9 with e91 _ e93
            subst e91 e93
            obtain ⟨qb, qo, G, rfl, _, _, h9⟩ := f9 (by rw [hq]; simp)
            have d0 : w9.cell? ⟨qb, qo, none⟩ = some (.int .i64 h1) := by
              obtain ⟨_, u, g1, g2⟩ := h9 0 (by rw [hq]; simp) 0 (by omega)
              have g3 : u = .int .i64 ((Q.getD 0 nAddress).f0) := g2.1
              rw [hq] at g3
              rw [g3] at g1
              exact g1
            have d1 : w9.cell? ⟨qb, qo + 1, none⟩ = some (.int .i64 h2) := by
              obtain ⟨_, u, g1, g2⟩ := h9 0 (by rw [hq]; simp) 1 (by omega)
              have g3 : u = .int .i64 ((Q.getD 0 nAddress).f1) := g2.1
              rw [hq] at g3
              rw [g3] at g1
              rw [Nat.zero_mul, Nat.add_zero] at g1
              exact g1
            have d2 : w9.cell? ⟨qb, qo + 2, none⟩ = some (.int .i64 h3) := by
              obtain ⟨_, u, g1, g2⟩ := h9 0 (by rw [hq]; simp) 2 (by omega)
              have g3 : u = .int .i64 ((Q.getD 0 nAddress).f2) := g2.1
              rw [hq] at g3
              rw [g3] at g1
              rw [Nat.zero_mul, Nat.add_zero] at g1
              exact g1
            have hmp : 0 < m := by rw [← hm2, hq]; simp
            have d0 := (Mem.cell_of_heap (hA.block qb (Mem.cell_lt d0))).trans d0
            have d1 := (Mem.cell_of_heap (hA.block qb (Mem.cell_lt d1))).trans d1
            have d2 := (Mem.cell_of_heap (hA.block qb (Mem.cell_lt d2))).trans d2
            have hg1 : decide ((m : Int) > 0) = true := by rw [decide_eq_true_eq]; omega
            have hg2 : decide (0 < (m : Int)) = true := hg1
            have hg3 : decide (n ≥ 0) = true := decide_eq_true n00
            have hg4 : decide (0 ≤ n) = true := hg3
            have hg5 : decide (n ≤ 100) = true := decide_eq_true n100
            clear h9 f9 hay han hm2 hxn hA hq HM
            have s9 : U4.cell? ⟨bV, 0, none⟩ = some (.slice a0 m0 c0) ∧ U4.cell? ⟨bV, 1, none⟩ = some (.int .i64 t) ∧ U4.cell? ⟨bV, 2, none⟩ = some (.int .i64 s) ∧ U4.cell? ⟨bV, 3, none⟩ = some (.slice a3 m3 c3) ∧ U4.cell? ⟨bV + 1, 0, none⟩ = some (.int .i64 1) ∧ U4.cell? ⟨bV + 1, 1, none⟩ = some (.int .i64 h1) ∧ U4.cell? ⟨bV + 1, 2, none⟩ = some (.int .i64 h2) ∧ U4.cell? ⟨bV + 1, 3, none⟩ = some (.int .i64 h3) ∧ U4.cell? ⟨qb, qo, none⟩ = some (.int .i64 h1) ∧ U4.cell? ⟨qb, qo + 1, none⟩ = some (.int .i64 h2) ∧ U4.cell? ⟨qb, qo + 2, none⟩ = some (.int .i64 h3) := ⟨qV.at rfl, qV.at rfl, qV.at rfl, qV.at rfl, qW.at rfl, qW.at rfl, qW.at rfl, qW.at rfl, d0, d1, d2⟩
            refine wp_region_held_drew (S := (fun w' => w'.cell? ⟨bV, 0, none⟩ = some (.slice a0 m0 c0) ∧ w'.cell? ⟨bV, 1, none⟩ = some (.int .i64 t) ∧ w'.cell? ⟨bV, 2, none⟩ = some (.int .i64 s) ∧ w'.cell? ⟨bV, 3, none⟩ = some (.slice a3 m3 c3) ∧ w'.cell? ⟨bV + 1, 0, none⟩ = some (.int .i64 1) ∧ w'.cell? ⟨bV + 1, 1, none⟩ = some (.int .i64 h1) ∧ w'.cell? ⟨bV + 1, 2, none⟩ = some (.int .i64 h2) ∧ w'.cell? ⟨bV + 1, 3, none⟩ = some (.int .i64 h3) ∧ w'.cell? ⟨qb, qo, none⟩ = some (.int .i64 h1) ∧ w'.cell? ⟨qb, qo + 1, none⟩ = some (.int .i64 h2) ∧ w'.cell? ⟨qb, qo + 2, none⟩ = some (.int .i64 h3))) (by kernel_rfl) (by rw [hU4]; exact s9) (fun hHeld => ?_)
            rw [hU4]
            clear hU4
            refine wpAnyH_take (i := 0) (v := ?vgyes0) (List.getElem?_toArray.trans rfl) (by kernel_rfl) (by kernel_rfl) (by kernel_rfl) (fun _ _ _ h => h) (Or.inl ⟨by rfl, ?ygyes0⟩) (by assumption) ?rgyes0
            case ygyes0 => (intro w hSw; (try dsimp only at hSw); go_simp; try with_reducible rfl)
            try simp only [Act.put, List.setIfInBounds_toArray, List.set_cons_zero, List.set_cons_succ]
            refine wpAnyH_take (i := 1) (v := ?vgyes1) (List.getElem?_toArray.trans rfl) (by kernel_rfl) (by kernel_rfl) (by kernel_rfl) (fun _ _ _ h => h) (Or.inl ⟨by rfl, ?ygyes1⟩) (by assumption) ?rgyes1
            case ygyes1 => (intro w hSw; (try dsimp only at hSw); go_simp; try with_reducible rfl)
            try simp only [Act.put, List.setIfInBounds_toArray, List.set_cons_zero, List.set_cons_succ]
            refine wpAnyH_take (i := 2) (v := ?vgyes2) (List.getElem?_toArray.trans rfl) (by kernel_rfl) (by kernel_rfl) (by kernel_rfl) (fun _ _ _ h => h) (Or.inl ⟨by rfl, ?ygyes2⟩) (by assumption) ?rgyes2
            case ygyes2 => (intro w hSw; (try dsimp only at hSw); go_simp; try with_reducible rfl)
            try simp only [Act.put, List.setIfInBounds_toArray, List.set_cons_zero, List.set_cons_succ]
            refine wpAnyH_take (i := 3) (v := ?vgyes3) (List.getElem?_toArray.trans rfl) (by kernel_rfl) (by kernel_rfl) (by kernel_rfl) (fun _ _ _ h => h) (Or.inl ⟨by rfl, ?ygyes3⟩) (by assumption) ?rgyes3
            case ygyes3 => (intro w hSw; (try dsimp only at hSw); go_simp; try with_reducible rfl)
            try simp only [Act.put, List.setIfInBounds_toArray, List.set_cons_zero, List.set_cons_succ]
            refine wpAnyH_take (i := 4) (v := ?vgyes4) (List.getElem?_toArray.trans rfl) (by kernel_rfl) (by kernel_rfl) (by kernel_rfl) (fun _ _ _ h => h) (Or.inl ⟨by rfl, ?ygyes4⟩) (by assumption) ?rgyes4
            case ygyes4 => (intro w hSw; (try dsimp only at hSw); go_simp; try with_reducible rfl)
            try simp only [Act.put, List.setIfInBounds_toArray, List.set_cons_zero, List.set_cons_succ]
            refine wpAnyH_take (i := 5) (v := ?vgyes5) (List.getElem?_toArray.trans rfl) (by kernel_rfl) (by kernel_rfl) (by kernel_rfl) (fun _ _ _ h => h) (Or.inl ⟨by rfl, ?ygyes5⟩) (by assumption) ?rgyes5
            case ygyes5 => (intro w hSw; (try dsimp only at hSw); go_simp; try with_reducible rfl)
            try simp only [Act.put, List.setIfInBounds_toArray, List.set_cons_zero, List.set_cons_succ]
            refine wpAnyH_take (i := 6) (v := ?vgyes6) (List.getElem?_toArray.trans rfl) (by kernel_rfl) (by kernel_rfl) (by kernel_rfl) (fun _ _ _ h => h) (Or.inl ⟨by rfl, ?ygyes6⟩) (by assumption) ?rgyes6
            case ygyes6 => (intro w hSw; (try dsimp only at hSw); go_simp; try with_reducible rfl)
            try simp only [Act.put, List.setIfInBounds_toArray, List.set_cons_zero, List.set_cons_succ]
            refine wpAnyH_take (i := 7) (v := ?vgyes7) (List.getElem?_toArray.trans rfl) (by kernel_rfl) (by kernel_rfl) (by kernel_rfl) (fun _ _ _ h => h) (Or.inl ⟨by rfl, ?ygyes7⟩) (by assumption) ?rgyes7
            case ygyes7 => (intro w hSw; (try dsimp only at hSw); go_simp; try with_reducible rfl)
            try simp only [Act.put, List.setIfInBounds_toArray, List.set_cons_zero, List.set_cons_succ]
            refine wpAnyH_ready (rs := [8]) (by kernel_rfl) (by simp) ?_
            refine AllReadyH.cons (List.getElem?_toArray.trans rfl) (fun K hK => ?_) AllReadyH.nil
            go_simp
            go_at_call 11
            refine (hVis U4 hB).mono ?_
            rintro e u5 ⟨rfl, hy⟩
            have qV := qV.below hy
            have qW := qW.below hy
            have hB := hB.trans (hy.mono (by omega))
            have hC := hC.trans (hy.mono (by omega))
            have hz := Nat.le_trans hz hy.size
            have d0 := (Mem.cell_of_heap (hy.block qb (by have := Mem.cell_lt d0; omega))).trans d0
            have d1 := (Mem.cell_of_heap (hy.block qb (by have := Mem.cell_lt d1; omega))).trans d1
            have d2 := (Mem.cell_of_heap (hy.block qb (by have := Mem.cell_lt d2; omega))).trans d2
            clear hy
            have s9 : u5.cell? ⟨bV, 0, none⟩ = some (.slice a0 m0 c0) ∧ u5.cell? ⟨bV, 1, none⟩ = some (.int .i64 t) ∧ u5.cell? ⟨bV, 2, none⟩ = some (.int .i64 s) ∧ u5.cell? ⟨bV, 3, none⟩ = some (.slice a3 m3 c3) ∧ u5.cell? ⟨bV + 1, 0, none⟩ = some (.int .i64 1) ∧ u5.cell? ⟨bV + 1, 1, none⟩ = some (.int .i64 h1) ∧ u5.cell? ⟨bV + 1, 2, none⟩ = some (.int .i64 h2) ∧ u5.cell? ⟨bV + 1, 3, none⟩ = some (.int .i64 h3) ∧ u5.cell? ⟨qb, qo, none⟩ = some (.int .i64 h1) ∧ u5.cell? ⟨qb, qo + 1, none⟩ = some (.int .i64 h2) ∧ u5.cell? ⟨qb, qo + 2, none⟩ = some (.int .i64 h3) := ⟨qV.at rfl, qV.at rfl, qV.at rfl, qV.at rfl, qW.at rfl, qW.at rfl, qW.at rfl, qW.at rfl, d0, d1, d2⟩
            refine hK.out _ _ s9 (fun hHeld => ?_)
            clear hK K
            try simp only [Act.put, List.setIfInBounds_toArray, List.set_cons_zero, List.set_cons_succ]
            refine wpAnyH_take (i := 9) (v := ?vgyes9) (List.getElem?_toArray.trans rfl) (by kernel_rfl) (by kernel_rfl) (by kernel_rfl) (fun _ _ _ h => h) (Or.inl ⟨by rfl, ?ygyes9⟩) (by assumption) ?rgyes9
            case ygyes9 => (intro w hSw; (try dsimp only at hSw); go_simp; try with_reducible rfl)
            try simp only [Act.put, List.setIfInBounds_toArray, List.set_cons_zero, List.set_cons_succ]
            refine wpAnyH_take (i := 10) (v := ?vgyes10) (List.getElem?_toArray.trans rfl) (by kernel_rfl) (by kernel_rfl) (by kernel_rfl) (fun _ _ _ h => h) (Or.inl ⟨by rfl, ?ygyes10⟩) (by assumption) ?rgyes10
            case ygyes10 => (intro w hSw; (try dsimp only at hSw); go_simp; try with_reducible rfl)
            try simp only [Act.put, List.setIfInBounds_toArray, List.set_cons_zero, List.set_cons_succ]
            refine wpAnyH_take (i := 11) (v := ?vgyes11) (List.getElem?_toArray.trans rfl) (by kernel_rfl) (by kernel_rfl) (by kernel_rfl) (fun _ _ _ h => h) (Or.inl ⟨by rfl, ?ygyes11⟩) (by assumption) ?rgyes11
            case ygyes11 => (intro w hSw; (try dsimp only at hSw); go_simp; try with_reducible rfl)
            try simp only [Act.put, List.setIfInBounds_toArray, List.set_cons_zero, List.set_cons_succ]
            refine wpAnyH_take (i := 12) (v := ?vgyes12) (List.getElem?_toArray.trans rfl) (by kernel_rfl) (by kernel_rfl) (by kernel_rfl) (fun _ _ _ h => h) (Or.inl ⟨by rfl, ?ygyes12⟩) (by assumption) ?rgyes12
            case ygyes12 => (intro w hSw; (try dsimp only at hSw); go_simp; try with_reducible rfl)
            try simp only [Act.put, List.setIfInBounds_toArray, List.set_cons_zero, List.set_cons_succ]
            refine wpAnyH_take (i := 13) (v := ?vgyes13) (List.getElem?_toArray.trans rfl) (by kernel_rfl) (by kernel_rfl) (by kernel_rfl) (fun _ _ _ h => h) (Or.inl ⟨by rfl, ?ygyes13⟩) (by assumption) ?rgyes13
            case ygyes13 => (intro w hSw; (try dsimp only at hSw); go_simp; try with_reducible rfl)
            try simp only [Act.put, List.setIfInBounds_toArray, List.set_cons_zero, List.set_cons_succ]
            refine wpAnyH_take (i := 14) (v := ?vgyes14) (List.getElem?_toArray.trans rfl) (by kernel_rfl) (by kernel_rfl) (by kernel_rfl) (fun _ _ _ h => h) (Or.inl ⟨by rfl, ?ygyes14⟩) (by assumption) ?rgyes14
            case ygyes14 => (intro w hSw; (try dsimp only at hSw); go_simp; try with_reducible rfl)
            try simp only [Act.put, List.setIfInBounds_toArray, List.set_cons_zero, List.set_cons_succ]
            refine wpAnyH_take (i := 15) (v := ?vgyes15) (List.getElem?_toArray.trans rfl) (by kernel_rfl) (by kernel_rfl) (by kernel_rfl) (fun _ _ _ h => h) (Or.inl ⟨by rfl, ?ygyes15⟩) (by assumption) ?rgyes15
            case ygyes15 => (intro w hSw; (try dsimp only at hSw); go_simp; try with_reducible rfl)
            try simp only [Act.put, List.setIfInBounds_toArray, List.set_cons_zero, List.set_cons_succ]
            refine wpAnyH_take (i := 16) (v := ?vgyes16) (List.getElem?_toArray.trans rfl) (by kernel_rfl) (by kernel_rfl) (by kernel_rfl) (fun _ _ _ h => h) (Or.inl ⟨by rfl, ?ygyes16⟩) (by assumption) ?rgyes16
            case ygyes16 => (intro w hSw; (try dsimp only at hSw); go_simp; try with_reducible rfl)
            try simp only [Act.put, List.setIfInBounds_toArray, List.set_cons_zero, List.set_cons_succ]
            refine wpAnyH_take (i := 17) (v := ?vgyes17) (List.getElem?_toArray.trans rfl) (by kernel_rfl) (by kernel_rfl) (by kernel_rfl) (fun _ _ _ h => h) (Or.inl ⟨by rfl, ?ygyes17⟩) (by assumption) ?rgyes17
            case ygyes17 => (intro w hSw; (try dsimp only at hSw); go_simp; try with_reducible rfl)
            try simp only [Act.put, List.setIfInBounds_toArray, List.set_cons_zero, List.set_cons_succ]
            refine wpAnyH_take (i := 18) (v := ?vgyes18) (List.getElem?_toArray.trans rfl) (by kernel_rfl) (by kernel_rfl) (by kernel_rfl) (fun _ _ _ h => h) (Or.inl ⟨by rfl, ?ygyes18⟩) (by assumption) ?rgyes18
            case ygyes18 => (intro w hSw; (try dsimp only at hSw); go_simp; try with_reducible rfl)
            try simp only [Act.put, List.setIfInBounds_toArray, List.set_cons_zero, List.set_cons_succ]
            refine wpAnyH_take (i := 19) (v := ?vgyes19) (List.getElem?_toArray.trans rfl) (by kernel_rfl) (by kernel_rfl) (by kernel_rfl) (fun _ _ _ h => h) (Or.inl ⟨by rfl, ?ygyes19⟩) (by assumption) ?rgyes19
            case ygyes19 => (intro w hSw; (try dsimp only at hSw); go_simp; try with_reducible rfl)
            try simp only [Act.put, List.setIfInBounds_toArray, List.set_cons_zero, List.set_cons_succ]
            refine wpAnyH_take (i := 20) (v := ?vgyes20) (List.getElem?_toArray.trans rfl) (by kernel_rfl) (by kernel_rfl) (by kernel_rfl) (fun _ _ _ h => h) (Or.inl ⟨by rfl, ?ygyes20⟩) (by assumption) ?rgyes20
            case ygyes20 => (intro w hSw; (try dsimp only at hSw); go_simp; try with_reducible rfl)
            try simp only [Act.put, List.setIfInBounds_toArray, List.set_cons_zero, List.set_cons_succ]
            refine wpAnyH_take (i := 21) (v := ?vgyes21) (List.getElem?_toArray.trans rfl) (by kernel_rfl) (by kernel_rfl) (by kernel_rfl) (fun _ _ _ h => h) (Or.inl ⟨by rfl, ?ygyes21⟩) (by assumption) ?rgyes21
            case ygyes21 => (intro w hSw; (try dsimp only at hSw); go_simp; try with_reducible rfl)
            try simp only [Act.put, List.setIfInBounds_toArray, List.set_cons_zero, List.set_cons_succ]
            refine wpAnyH_take (i := 22) (v := ?vgyes22) (List.getElem?_toArray.trans rfl) (by kernel_rfl) (by kernel_rfl) (by kernel_rfl) (fun _ _ _ h => h) (Or.inl ⟨by rfl, ?ygyes22⟩) (by assumption) ?rgyes22
            case ygyes22 => (intro w hSw; (try dsimp only at hSw); go_simp; try with_reducible rfl)
            try simp only [Act.put, List.setIfInBounds_toArray, List.set_cons_zero, List.set_cons_succ]
            refine wpAnyH_take (i := 23) (v := ?vgyes23) (List.getElem?_toArray.trans rfl) (by kernel_rfl) (by kernel_rfl) (by kernel_rfl) (fun _ _ _ h => h) (Or.inl ⟨by rfl, ?ygyes23⟩) (by assumption) ?rgyes23
            case ygyes23 => (intro w hSw; (try dsimp only at hSw); go_simp; try with_reducible rfl)
            try simp only [Act.put, List.setIfInBounds_toArray, List.set_cons_zero, List.set_cons_succ]
            refine wpAnyH_take (i := 24) (v := ?vgyes24) (List.getElem?_toArray.trans rfl) (by kernel_rfl) (by kernel_rfl) (by kernel_rfl) (fun _ _ _ h => h) (Or.inl ⟨by rfl, ?ygyes24⟩) (by assumption) ?rgyes24
            case ygyes24 => (intro w hSw; (try dsimp only at hSw); go_simp; try with_reducible rfl)
            try simp only [Act.put, List.setIfInBounds_toArray, List.set_cons_zero, List.set_cons_succ]
            refine wpAnyH_take (i := 25) (v := ?vgyes25) (List.getElem?_toArray.trans rfl) (by kernel_rfl) (by kernel_rfl) (by kernel_rfl) (fun _ _ _ h => h) (Or.inl ⟨by rfl, ?ygyes25⟩) (by assumption) ?rgyes25
            case ygyes25 => (intro w hSw; (try dsimp only at hSw); go_simp; try with_reducible rfl)
            try simp only [Act.put, List.setIfInBounds_toArray, List.set_cons_zero, List.set_cons_succ]
            refine wpAnyH_take (i := 26) (v := ?vgyes26) (List.getElem?_toArray.trans rfl) (by kernel_rfl) (by kernel_rfl) (by kernel_rfl) (fun _ _ _ h => h) (Or.inl ⟨by rfl, ?ygyes26⟩) (by assumption) ?rgyes26
            case ygyes26 => (intro w hSw; (try dsimp only at hSw); go_simp; try with_reducible rfl)
            try simp only [Act.put, List.setIfInBounds_toArray, List.set_cons_zero, List.set_cons_succ]
            refine wpAnyH_take (i := 27) (v := ?vgyes27) (List.getElem?_toArray.trans rfl) (by kernel_rfl) (by kernel_rfl) (by kernel_rfl) (fun _ _ _ h => h) (Or.inl ⟨by rfl, ?ygyes27⟩) (by assumption) ?rgyes27
            case ygyes27 => (intro w hSw; (try dsimp only at hSw); go_simp; try with_reducible rfl)
            try simp only [Act.put, List.setIfInBounds_toArray, List.set_cons_zero, List.set_cons_succ]
            refine wpAnyH_take (i := 28) (v := ?vgyes28) (List.getElem?_toArray.trans rfl) (by kernel_rfl) (by kernel_rfl) (by kernel_rfl) (fun _ _ _ h => h) (Or.inl ⟨by rfl, ?ygyes28⟩) (by assumption) ?rgyes28
            case ygyes28 => (intro w hSw; (try dsimp only at hSw); go_simp; try with_reducible rfl)
            try simp only [Act.put, List.setIfInBounds_toArray, List.set_cons_zero, List.set_cons_succ]
            refine wpAnyH_take (i := 29) (v := ?vgyes29) (List.getElem?_toArray.trans rfl) (by kernel_rfl) (by kernel_rfl) (by kernel_rfl) (fun _ _ _ h => h) (Or.inl ⟨by rfl, ?ygyes29⟩) (by assumption) ?rgyes29
            case ygyes29 => (intro w hSw; (try dsimp only at hSw); go_simp; try with_reducible rfl)
            try simp only [Act.put, List.setIfInBounds_toArray, List.set_cons_zero, List.set_cons_succ]
            refine wpAnyH_take (i := 30) (v := ?vgyes30) (List.getElem?_toArray.trans rfl) (by kernel_rfl) (by kernel_rfl) (by kernel_rfl) (fun _ _ _ h => h) (Or.inl ⟨by rfl, ?ygyes30⟩) (by assumption) ?rgyes30
            case ygyes30 => (intro w hSw; (try dsimp only at hSw); go_simp; try with_reducible rfl)
            try simp only [Act.put, List.setIfInBounds_toArray, List.set_cons_zero, List.set_cons_succ]
            refine wpAnyH_take (i := 31) (v := ?vgyes31) (List.getElem?_toArray.trans rfl) (by kernel_rfl) (by kernel_rfl) (by kernel_rfl) (fun _ _ _ h => h) (Or.inl ⟨by rfl, ?ygyes31⟩) (by assumption) ?rgyes31
            case ygyes31 => (intro w hSw; (try dsimp only at hSw); go_simp; try with_reducible rfl)
            try simp only [Act.put, List.setIfInBounds_toArray, List.set_cons_zero, List.set_cons_succ]
            refine wpAnyH_done (by kernel_rfl) ?_ _
            clear s9
            go_wp2_with fail
            go_meet
            case rel => exact ⟨rfl, hC⟩
          · have hQ0 := han (fun e => by have := inR_at e.2.2; omega)
            rw [hQ0] at hm2
            have hm0 : m = 0 := hm2.symm
            subst hm0
            have hg3 : decide (n ≥ 0) = true := decide_eq_true n00
            have hg4 : decide (0 ≤ n) = true := hg3
            have hg5 : decide (n ≤ 100) = false := decide_eq_false n100
            clear oQ hay han hm2 hxn hA
            have s9 : U4.cell? ⟨bV, 0, none⟩ = some (.slice a0 m0 c0) ∧ U4.cell? ⟨bV, 1, none⟩ = some (.int .i64 t) ∧ U4.cell? ⟨bV, 2, none⟩ = some (.int .i64 s) ∧ U4.cell? ⟨bV, 3, none⟩ = some (.slice a3 m3 c3) ∧ U4.cell? ⟨bV + 1, 0, none⟩ = some (.int .i64 1) ∧ U4.cell? ⟨bV + 1, 1, none⟩ = some (.int .i64 h1) ∧ U4.cell? ⟨bV + 1, 2, none⟩ = some (.int .i64 h2) ∧ U4.cell? ⟨bV + 1, 3, none⟩ = some (.int .i64 h3) := ⟨qV.at rfl, qV.at rfl, qV.at rfl, qV.at rfl, qW.at rfl, qW.at rfl, qW.at rfl, qW.at rfl⟩
            refine wp_region_held_drew (S := (fun w' => w'.cell? ⟨bV, 0, none⟩ = some (.slice a0 m0 c0) ∧ w'.cell? ⟨bV, 1, none⟩ = some (.int .i64 t) ∧ w'.cell? ⟨bV, 2, none⟩ = some (.int .i64 s) ∧ w'.cell? ⟨bV, 3, none⟩ = some (.slice a3 m3 c3) ∧ w'.cell? ⟨bV + 1, 0, none⟩ = some (.int .i64 1) ∧ w'.cell? ⟨bV + 1, 1, none⟩ = some (.int .i64 h1) ∧ w'.cell? ⟨bV + 1, 2, none⟩ = some (.int .i64 h2) ∧ w'.cell? ⟨bV + 1, 3, none⟩ = some (.int .i64 h3))) (by kernel_rfl) (by rw [hU4]; exact s9) (fun hHeld => ?_)
            rw [hU4]
            clear hU4
            refine wpAnyH_take (i := 0) (v := ?vghigh0) (List.getElem?_toArray.trans rfl) (by kernel_rfl) (by kernel_rfl) (by kernel_rfl) (fun _ _ _ h => h) (Or.inl ⟨by rfl, ?yghigh0⟩) (by assumption) ?rghigh0
            case yghigh0 => (intro w hSw; (try dsimp only at hSw); go_simp; try with_reducible rfl)
            try simp only [Act.put, List.setIfInBounds_toArray, List.set_cons_zero, List.set_cons_succ]
            refine wpAnyH_take (i := 1) (v := ?vghigh1) (List.getElem?_toArray.trans rfl) (by kernel_rfl) (by kernel_rfl) (by kernel_rfl) (fun _ _ _ h => h) (Or.inl ⟨by rfl, ?yghigh1⟩) (by assumption) ?rghigh1
            case yghigh1 => (intro w hSw; (try dsimp only at hSw); go_simp; try with_reducible rfl)
            try simp only [Act.put, List.setIfInBounds_toArray, List.set_cons_zero, List.set_cons_succ]
            refine wpAnyH_take (i := 2) (v := ?vghigh2) (List.getElem?_toArray.trans rfl) (by kernel_rfl) (by kernel_rfl) (by kernel_rfl) (fun _ _ _ h => h) (Or.inl ⟨by rfl, ?yghigh2⟩) (by assumption) ?rghigh2
            case yghigh2 => (intro w hSw; (try dsimp only at hSw); go_simp; try with_reducible rfl)
            try simp only [Act.put, List.setIfInBounds_toArray, List.set_cons_zero, List.set_cons_succ]
            refine wpAnyH_take (i := 3) (v := ?vghigh3) (List.getElem?_toArray.trans rfl) (by kernel_rfl) (by kernel_rfl) (by kernel_rfl) (fun _ _ _ h => h) (Or.inl ⟨by rfl, ?yghigh3⟩) (by assumption) ?rghigh3
            case yghigh3 => (intro w hSw; (try dsimp only at hSw); go_simp; try with_reducible rfl)
            try simp only [Act.put, List.setIfInBounds_toArray, List.set_cons_zero, List.set_cons_succ]
            refine wpAnyH_take (i := 4) (v := ?vghigh4) (List.getElem?_toArray.trans rfl) (by kernel_rfl) (by kernel_rfl) (by kernel_rfl) (fun _ _ _ h => h) (Or.inl ⟨by rfl, ?yghigh4⟩) (by assumption) ?rghigh4
            case yghigh4 => (intro w hSw; (try dsimp only at hSw); go_simp; try with_reducible rfl)
            try simp only [Act.put, List.setIfInBounds_toArray, List.set_cons_zero, List.set_cons_succ]
            refine wpAnyH_take (i := 5) (v := ?vghigh5) (List.getElem?_toArray.trans rfl) (by kernel_rfl) (by kernel_rfl) (by kernel_rfl) (fun _ _ _ h => h) (Or.inl ⟨by rfl, ?yghigh5⟩) (by assumption) ?rghigh5
            case yghigh5 => (intro w hSw; (try dsimp only at hSw); go_simp; try with_reducible rfl)
            try simp only [Act.put, List.setIfInBounds_toArray, List.set_cons_zero, List.set_cons_succ]
            refine wpAnyH_take (i := 6) (v := ?vghigh6) (List.getElem?_toArray.trans rfl) (by kernel_rfl) (by kernel_rfl) (by kernel_rfl) (fun _ _ _ h => h) (Or.inl ⟨by rfl, ?yghigh6⟩) (by assumption) ?rghigh6
            case yghigh6 => (intro w hSw; (try dsimp only at hSw); go_simp; try with_reducible rfl)
            try simp only [Act.put, List.setIfInBounds_toArray, List.set_cons_zero, List.set_cons_succ]
            refine wpAnyH_take (i := 7) (v := ?vghigh7) (List.getElem?_toArray.trans rfl) (by kernel_rfl) (by kernel_rfl) (by kernel_rfl) (fun _ _ _ h => h) (Or.inl ⟨by rfl, ?yghigh7⟩) (by assumption) ?rghigh7
            case yghigh7 => (intro w hSw; (try dsimp only at hSw); go_simp; try with_reducible rfl)
            try simp only [Act.put, List.setIfInBounds_toArray, List.set_cons_zero, List.set_cons_succ]
            refine wpAnyH_ready (rs := [8]) (by kernel_rfl) (by simp) ?_
            refine AllReadyH.cons (List.getElem?_toArray.trans rfl) (fun K hK => ?_) AllReadyH.nil
            go_simp
            go_at_call 11
            refine (hVis U4 hB).mono ?_
            rintro e u5 ⟨rfl, hy⟩
            have qV := qV.below hy
            have qW := qW.below hy
            have hB := hB.trans (hy.mono (by omega))
            have hC := hC.trans (hy.mono (by omega))
            have hz := Nat.le_trans hz hy.size
            clear hy
            have s9 : u5.cell? ⟨bV, 0, none⟩ = some (.slice a0 m0 c0) ∧ u5.cell? ⟨bV, 1, none⟩ = some (.int .i64 t) ∧ u5.cell? ⟨bV, 2, none⟩ = some (.int .i64 s) ∧ u5.cell? ⟨bV, 3, none⟩ = some (.slice a3 m3 c3) ∧ u5.cell? ⟨bV + 1, 0, none⟩ = some (.int .i64 1) ∧ u5.cell? ⟨bV + 1, 1, none⟩ = some (.int .i64 h1) ∧ u5.cell? ⟨bV + 1, 2, none⟩ = some (.int .i64 h2) ∧ u5.cell? ⟨bV + 1, 3, none⟩ = some (.int .i64 h3) := ⟨qV.at rfl, qV.at rfl, qV.at rfl, qV.at rfl, qW.at rfl, qW.at rfl, qW.at rfl, qW.at rfl⟩
            refine hK.out _ _ s9 (fun hHeld => ?_)
            clear hK K
            try simp only [Act.put, List.setIfInBounds_toArray, List.set_cons_zero, List.set_cons_succ]
            refine wpAnyH_take (i := 9) (v := ?vghigh9) (List.getElem?_toArray.trans rfl) (by kernel_rfl) (by kernel_rfl) (by kernel_rfl) (fun _ _ _ h => h) (Or.inl ⟨by rfl, ?yghigh9⟩) (by assumption) ?rghigh9
            case yghigh9 => (intro w hSw; (try dsimp only at hSw); go_simp; try with_reducible rfl)
            try simp only [Act.put, List.setIfInBounds_toArray, List.set_cons_zero, List.set_cons_succ]
            refine wpAnyH_take (i := 10) (v := ?vghigh10) (List.getElem?_toArray.trans rfl) (by kernel_rfl) (by kernel_rfl) (by kernel_rfl) (fun _ _ _ h => h) (Or.inl ⟨by rfl, ?yghigh10⟩) (by assumption) ?rghigh10
            case yghigh10 => (intro w hSw; (try dsimp only at hSw); go_simp; try with_reducible rfl)
            try simp only [Act.put, List.setIfInBounds_toArray, List.set_cons_zero, List.set_cons_succ]
            refine wpAnyH_take (i := 11) (v := ?vghigh11) (List.getElem?_toArray.trans rfl) (by kernel_rfl) (by kernel_rfl) (by kernel_rfl) (fun _ _ _ h => h) (Or.inl ⟨by rfl, ?yghigh11⟩) (by assumption) ?rghigh11
            case yghigh11 => (intro w hSw; (try dsimp only at hSw); go_simp; try with_reducible rfl)
            try simp only [Act.put, List.setIfInBounds_toArray, List.set_cons_zero, List.set_cons_succ]
            refine wpAnyH_take (i := 12) (v := ?vghigh12) (List.getElem?_toArray.trans rfl) (by kernel_rfl) (by kernel_rfl) (by kernel_rfl) (fun _ _ _ h => h) (Or.inl ⟨by rfl, ?yghigh12⟩) (by assumption) ?rghigh12
            case yghigh12 => (intro w hSw; (try dsimp only at hSw); go_simp; try with_reducible rfl)
            try simp only [Act.put, List.setIfInBounds_toArray, List.set_cons_zero, List.set_cons_succ]
            refine wpAnyH_take (i := 13) (v := ?vghigh13) (List.getElem?_toArray.trans rfl) (by kernel_rfl) (by kernel_rfl) (by kernel_rfl) (fun _ _ _ h => h) (Or.inl ⟨by rfl, ?yghigh13⟩) (by assumption) ?rghigh13
            case yghigh13 => (intro w hSw; (try dsimp only at hSw); go_simp; try with_reducible rfl)
            try simp only [Act.put, List.setIfInBounds_toArray, List.set_cons_zero, List.set_cons_succ]
            refine wpAnyH_take (i := 14) (v := ?vghigh14) (List.getElem?_toArray.trans rfl) (by kernel_rfl) (by kernel_rfl) (by kernel_rfl) (fun _ _ _ h => h) (Or.inl ⟨by rfl, ?yghigh14⟩) (by assumption) ?rghigh14
            case yghigh14 => (intro w hSw; (try dsimp only at hSw); go_simp; try with_reducible rfl)
            try simp only [Act.put, List.setIfInBounds_toArray, List.set_cons_zero, List.set_cons_succ]
            refine wpAnyH_take (i := 15) (v := ?vghigh15) (List.getElem?_toArray.trans rfl) (by kernel_rfl) (by kernel_rfl) (by kernel_rfl) (fun _ _ _ h => h) (Or.inl ⟨by rfl, ?yghigh15⟩) (by assumption) ?rghigh15
            case yghigh15 => (intro w hSw; (try dsimp only at hSw); go_simp; try with_reducible rfl)
            try simp only [Act.put, List.setIfInBounds_toArray, List.set_cons_zero, List.set_cons_succ]
            refine wpAnyH_take (i := 16) (v := ?vghigh16) (List.getElem?_toArray.trans rfl) (by kernel_rfl) (by kernel_rfl) (by kernel_rfl) (fun _ _ _ h => h) (Or.inl ⟨by rfl, ?yghigh16⟩) (by assumption) ?rghigh16
            case yghigh16 => (intro w hSw; (try dsimp only at hSw); go_simp; try with_reducible rfl)
            try simp only [Act.put, List.setIfInBounds_toArray, List.set_cons_zero, List.set_cons_succ]
            refine wpAnyH_take (i := 17) (v := ?vghigh17) (List.getElem?_toArray.trans rfl) (by kernel_rfl) (by kernel_rfl) (by kernel_rfl) (fun _ _ _ h => h) (Or.inl ⟨by rfl, ?yghigh17⟩) (by assumption) ?rghigh17
            case yghigh17 => (intro w hSw; (try dsimp only at hSw); go_simp; try with_reducible rfl)
            try simp only [Act.put, List.setIfInBounds_toArray, List.set_cons_zero, List.set_cons_succ]
            refine wpAnyH_take (i := 18) (v := ?vghigh18) (List.getElem?_toArray.trans rfl) (by kernel_rfl) (by kernel_rfl) (by kernel_rfl) (fun _ _ _ h => h) (Or.inl ⟨by rfl, ?yghigh18⟩) (by assumption) ?rghigh18
            case yghigh18 => (intro w hSw; (try dsimp only at hSw); go_simp; try with_reducible rfl)
            try simp only [Act.put, List.setIfInBounds_toArray, List.set_cons_zero, List.set_cons_succ]
            refine wpAnyH_take (i := 19) (v := ?vghigh19) (List.getElem?_toArray.trans rfl) (by kernel_rfl) (by kernel_rfl) (by kernel_rfl) (fun _ _ _ h => h) (Or.inl ⟨by rfl, ?yghigh19⟩) (by assumption) ?rghigh19
            case yghigh19 => (intro w hSw; (try dsimp only at hSw); go_simp; try with_reducible rfl)
            try simp only [Act.put, List.setIfInBounds_toArray, List.set_cons_zero, List.set_cons_succ]
            refine wpAnyH_take (i := 20) (v := ?vghigh20) (List.getElem?_toArray.trans rfl) (by kernel_rfl) (by kernel_rfl) (by kernel_rfl) (fun _ _ _ h => h) (Or.inl ⟨by rfl, ?yghigh20⟩) (by assumption) ?rghigh20
            case yghigh20 => (intro w hSw; (try dsimp only at hSw); go_simp; try with_reducible rfl)
            try simp only [Act.put, List.setIfInBounds_toArray, List.set_cons_zero, List.set_cons_succ]
            refine wpAnyH_take (i := 21) (v := ?vghigh21) (List.getElem?_toArray.trans rfl) (by kernel_rfl) (by kernel_rfl) (by kernel_rfl) (fun _ _ _ h => h) (Or.inl ⟨by rfl, ?yghigh21⟩) (by assumption) ?rghigh21
            case yghigh21 => (intro w hSw; (try dsimp only at hSw); go_simp; try with_reducible rfl)
            try simp only [Act.put, List.setIfInBounds_toArray, List.set_cons_zero, List.set_cons_succ]
            refine wpAnyH_take (i := 22) (v := ?vghigh22) (List.getElem?_toArray.trans rfl) (by kernel_rfl) (by kernel_rfl) (by kernel_rfl) (fun _ _ _ h => h) (Or.inl ⟨by rfl, ?yghigh22⟩) (by assumption) ?rghigh22
            case yghigh22 => (intro w hSw; (try dsimp only at hSw); go_simp; try with_reducible rfl)
            try simp only [Act.put, List.setIfInBounds_toArray, List.set_cons_zero, List.set_cons_succ]
            refine wpAnyH_take (i := 23) (v := ?vghigh23) (List.getElem?_toArray.trans rfl) (by kernel_rfl) (by kernel_rfl) (by kernel_rfl) (fun _ _ _ h => h) (Or.inl ⟨by rfl, ?yghigh23⟩) (by assumption) ?rghigh23
            case yghigh23 => (intro w hSw; (try dsimp only at hSw); go_simp; try with_reducible rfl)
            try simp only [Act.put, List.setIfInBounds_toArray, List.set_cons_zero, List.set_cons_succ]
            refine wpAnyH_take (i := 24) (v := undef) (List.getElem?_toArray.trans rfl) (by kernel_rfl) (by kernel_rfl) (by kernel_rfl) (fun _ _ _ h => h) (Or.inr ⟨by first | (simp [Region.wanted, yielded]; done) | simp [Region.wanted, yielded, undef], rfl⟩) (by assumption) ?_
            try simp only [Act.put, List.setIfInBounds_toArray, List.set_cons_zero, List.set_cons_succ]
            refine wpAnyH_take (i := 25) (v := undef) (List.getElem?_toArray.trans rfl) (by kernel_rfl) (by kernel_rfl) (by kernel_rfl) (fun _ _ _ h => h) (Or.inr ⟨by first | (simp [Region.wanted, yielded]; done) | simp [Region.wanted, yielded, undef], rfl⟩) (by assumption) ?_
            try simp only [Act.put, List.setIfInBounds_toArray, List.set_cons_zero, List.set_cons_succ]
            refine wpAnyH_take (i := 26) (v := undef) (List.getElem?_toArray.trans rfl) (by kernel_rfl) (by kernel_rfl) (by kernel_rfl) (fun _ _ _ h => h) (Or.inr ⟨by first | (simp [Region.wanted, yielded]; done) | simp [Region.wanted, yielded, undef], rfl⟩) (by assumption) ?_
            try simp only [Act.put, List.setIfInBounds_toArray, List.set_cons_zero, List.set_cons_succ]
            refine wpAnyH_take (i := 27) (v := undef) (List.getElem?_toArray.trans rfl) (by kernel_rfl) (by kernel_rfl) (by kernel_rfl) (fun _ _ _ h => h) (Or.inr ⟨by first | (simp [Region.wanted, yielded]; done) | simp [Region.wanted, yielded, undef], rfl⟩) (by assumption) ?_
            try simp only [Act.put, List.setIfInBounds_toArray, List.set_cons_zero, List.set_cons_succ]
            refine wpAnyH_take (i := 28) (v := undef) (List.getElem?_toArray.trans rfl) (by kernel_rfl) (by kernel_rfl) (by kernel_rfl) (fun _ _ _ h => h) (Or.inr ⟨by first | (simp [Region.wanted, yielded]; done) | simp [Region.wanted, yielded, undef], rfl⟩) (by assumption) ?_
            try simp only [Act.put, List.setIfInBounds_toArray, List.set_cons_zero, List.set_cons_succ]
            refine wpAnyH_take (i := 29) (v := undef) (List.getElem?_toArray.trans rfl) (by kernel_rfl) (by kernel_rfl) (by kernel_rfl) (fun _ _ _ h => h) (Or.inr ⟨by first | (simp [Region.wanted, yielded]; done) | simp [Region.wanted, yielded, undef], rfl⟩) (by assumption) ?_
            try simp only [Act.put, List.setIfInBounds_toArray, List.set_cons_zero, List.set_cons_succ]
            refine wpAnyH_take (i := 30) (v := ?vghigh30) (List.getElem?_toArray.trans rfl) (by kernel_rfl) (by kernel_rfl) (by kernel_rfl) (fun _ _ _ h => h) (Or.inl ⟨by rfl, ?yghigh30⟩) (by assumption) ?rghigh30
            case yghigh30 => (intro w hSw; (try dsimp only at hSw); go_simp; try with_reducible rfl)
            try simp only [Act.put, List.setIfInBounds_toArray, List.set_cons_zero, List.set_cons_succ]
            refine wpAnyH_take (i := 31) (v := ?vghigh31) (List.getElem?_toArray.trans rfl) (by kernel_rfl) (by kernel_rfl) (by kernel_rfl) (fun _ _ _ h => h) (Or.inl ⟨by rfl, ?yghigh31⟩) (by assumption) ?rghigh31
            case yghigh31 => (intro w hSw; (try dsimp only at hSw); go_simp; try with_reducible rfl)
            try simp only [Act.put, List.setIfInBounds_toArray, List.set_cons_zero, List.set_cons_succ]
            refine wpAnyH_done (by kernel_rfl) ?_ _
            clear s9
            go_wp2_with fail
            go_meet
            case rel => exact ⟨rfl, hC⟩
        · have hQ0 := han (fun e => by have := inR_at e.2.2; omega)
          rw [hQ0] at hm2
          have hm0 : m = 0 := hm2.symm
          subst hm0
          have hg3 : decide (n ≥ 0) = false := decide_eq_false n00
          have hg4 : decide (0 ≤ n) = false := hg3
          clear oQ hay han hm2 hxn hA
          have s9 : U4.cell? ⟨bV, 0, none⟩ = some (.slice a0 m0 c0) ∧ U4.cell? ⟨bV, 1, none⟩ = some (.int .i64 t) ∧ U4.cell? ⟨bV, 2, none⟩ = some (.int .i64 s) ∧ U4.cell? ⟨bV, 3, none⟩ = some (.slice a3 m3 c3) ∧ U4.cell? ⟨bV + 1, 0, none⟩ = some (.int .i64 1) ∧ U4.cell? ⟨bV + 1, 1, none⟩ = some (.int .i64 h1) ∧ U4.cell? ⟨bV + 1, 2, none⟩ = some (.int .i64 h2) ∧ U4.cell? ⟨bV + 1, 3, none⟩ = some (.int .i64 h3) := ⟨qV.at rfl, qV.at rfl, qV.at rfl, qV.at rfl, qW.at rfl, qW.at rfl, qW.at rfl, qW.at rfl⟩
          refine wp_region_held_drew (S := (fun w' => w'.cell? ⟨bV, 0, none⟩ = some (.slice a0 m0 c0) ∧ w'.cell? ⟨bV, 1, none⟩ = some (.int .i64 t) ∧ w'.cell? ⟨bV, 2, none⟩ = some (.int .i64 s) ∧ w'.cell? ⟨bV, 3, none⟩ = some (.slice a3 m3 c3) ∧ w'.cell? ⟨bV + 1, 0, none⟩ = some (.int .i64 1) ∧ w'.cell? ⟨bV + 1, 1, none⟩ = some (.int .i64 h1) ∧ w'.cell? ⟨bV + 1, 2, none⟩ = some (.int .i64 h2) ∧ w'.cell? ⟨bV + 1, 3, none⟩ = some (.int .i64 h3))) (by kernel_rfl) (by rw [hU4]; exact s9) (fun hHeld => ?_)
          rw [hU4]
          clear hU4
          refine wpAnyH_take (i := 0) (v := ?vglow0) (List.getElem?_toArray.trans rfl) (by kernel_rfl) (by kernel_rfl) (by kernel_rfl) (fun _ _ _ h => h) (Or.inl ⟨by rfl, ?yglow0⟩) (by assumption) ?rglow0
          case yglow0 => (intro w hSw; (try dsimp only at hSw); go_simp; try with_reducible rfl)
          try simp only [Act.put, List.setIfInBounds_toArray, List.set_cons_zero, List.set_cons_succ]
          refine wpAnyH_take (i := 1) (v := ?vglow1) (List.getElem?_toArray.trans rfl) (by kernel_rfl) (by kernel_rfl) (by kernel_rfl) (fun _ _ _ h => h) (Or.inl ⟨by rfl, ?yglow1⟩) (by assumption) ?rglow1
          case yglow1 => (intro w hSw; (try dsimp only at hSw); go_simp; try with_reducible rfl)
          try simp only [Act.put, List.setIfInBounds_toArray, List.set_cons_zero, List.set_cons_succ]
          refine wpAnyH_take (i := 2) (v := ?vglow2) (List.getElem?_toArray.trans rfl) (by kernel_rfl) (by kernel_rfl) (by kernel_rfl) (fun _ _ _ h => h) (Or.inl ⟨by rfl, ?yglow2⟩) (by assumption) ?rglow2
          case yglow2 => (intro w hSw; (try dsimp only at hSw); go_simp; try with_reducible rfl)
          try simp only [Act.put, List.setIfInBounds_toArray, List.set_cons_zero, List.set_cons_succ]
          refine wpAnyH_take (i := 3) (v := ?vglow3) (List.getElem?_toArray.trans rfl) (by kernel_rfl) (by kernel_rfl) (by kernel_rfl) (fun _ _ _ h => h) (Or.inl ⟨by rfl, ?yglow3⟩) (by assumption) ?rglow3
          case yglow3 => (intro w hSw; (try dsimp only at hSw); go_simp; try with_reducible rfl)
          try simp only [Act.put, List.setIfInBounds_toArray, List.set_cons_zero, List.set_cons_succ]
          refine wpAnyH_take (i := 4) (v := ?vglow4) (List.getElem?_toArray.trans rfl) (by kernel_rfl) (by kernel_rfl) (by kernel_rfl) (fun _ _ _ h => h) (Or.inl ⟨by rfl, ?yglow4⟩) (by assumption) ?rglow4
          case yglow4 => (intro w hSw; (try dsimp only at hSw); go_simp; try with_reducible rfl)
          try simp only [Act.put, List.setIfInBounds_toArray, List.set_cons_zero, List.set_cons_succ]
          refine wpAnyH_take (i := 5) (v := ?vglow5) (List.getElem?_toArray.trans rfl) (by kernel_rfl) (by kernel_rfl) (by kernel_rfl) (fun _ _ _ h => h) (Or.inl ⟨by rfl, ?yglow5⟩) (by assumption) ?rglow5
          case yglow5 => (intro w hSw; (try dsimp only at hSw); go_simp; try with_reducible rfl)
          try simp only [Act.put, List.setIfInBounds_toArray, List.set_cons_zero, List.set_cons_succ]
          refine wpAnyH_take (i := 6) (v := ?vglow6) (List.getElem?_toArray.trans rfl) (by kernel_rfl) (by kernel_rfl) (by kernel_rfl) (fun _ _ _ h => h) (Or.inl ⟨by rfl, ?yglow6⟩) (by assumption) ?rglow6
          case yglow6 => (intro w hSw; (try dsimp only at hSw); go_simp; try with_reducible rfl)
          try simp only [Act.put, List.setIfInBounds_toArray, List.set_cons_zero, List.set_cons_succ]
          refine wpAnyH_take (i := 7) (v := ?vglow7) (List.getElem?_toArray.trans rfl) (by kernel_rfl) (by kernel_rfl) (by kernel_rfl) (fun _ _ _ h => h) (Or.inl ⟨by rfl, ?yglow7⟩) (by assumption) ?rglow7
          case yglow7 => (intro w hSw; (try dsimp only at hSw); go_simp; try with_reducible rfl)
          try simp only [Act.put, List.setIfInBounds_toArray, List.set_cons_zero, List.set_cons_succ]
          refine wpAnyH_ready (rs := [8]) (by kernel_rfl) (by simp) ?_
          refine AllReadyH.cons (List.getElem?_toArray.trans rfl) (fun K hK => ?_) AllReadyH.nil
          go_simp
          go_at_call 11
          refine (hVis U4 hB).mono ?_
          rintro e u5 ⟨rfl, hy⟩
          have qV := qV.below hy
          have qW := qW.below hy
          have hB := hB.trans (hy.mono (by omega))
          have hC := hC.trans (hy.mono (by omega))
          have hz := Nat.le_trans hz hy.size
          clear hy
          have s9 : u5.cell? ⟨bV, 0, none⟩ = some (.slice a0 m0 c0) ∧ u5.cell? ⟨bV, 1, none⟩ = some (.int .i64 t) ∧ u5.cell? ⟨bV, 2, none⟩ = some (.int .i64 s) ∧ u5.cell? ⟨bV, 3, none⟩ = some (.slice a3 m3 c3) ∧ u5.cell? ⟨bV + 1, 0, none⟩ = some (.int .i64 1) ∧ u5.cell? ⟨bV + 1, 1, none⟩ = some (.int .i64 h1) ∧ u5.cell? ⟨bV + 1, 2, none⟩ = some (.int .i64 h2) ∧ u5.cell? ⟨bV + 1, 3, none⟩ = some (.int .i64 h3) := ⟨qV.at rfl, qV.at rfl, qV.at rfl, qV.at rfl, qW.at rfl, qW.at rfl, qW.at rfl, qW.at rfl⟩
          refine hK.out _ _ s9 (fun hHeld => ?_)
          clear hK K
          try simp only [Act.put, List.setIfInBounds_toArray, List.set_cons_zero, List.set_cons_succ]
          refine wpAnyH_take (i := 9) (v := ?vglow9) (List.getElem?_toArray.trans rfl) (by kernel_rfl) (by kernel_rfl) (by kernel_rfl) (fun _ _ _ h => h) (Or.inl ⟨by rfl, ?yglow9⟩) (by assumption) ?rglow9
          case yglow9 => (intro w hSw; (try dsimp only at hSw); go_simp; try with_reducible rfl)
          try simp only [Act.put, List.setIfInBounds_toArray, List.set_cons_zero, List.set_cons_succ]
          refine wpAnyH_take (i := 10) (v := ?vglow10) (List.getElem?_toArray.trans rfl) (by kernel_rfl) (by kernel_rfl) (by kernel_rfl) (fun _ _ _ h => h) (Or.inl ⟨by rfl, ?yglow10⟩) (by assumption) ?rglow10
          case yglow10 => (intro w hSw; (try dsimp only at hSw); go_simp; try with_reducible rfl)
          try simp only [Act.put, List.setIfInBounds_toArray, List.set_cons_zero, List.set_cons_succ]
          refine wpAnyH_take (i := 11) (v := ?vglow11) (List.getElem?_toArray.trans rfl) (by kernel_rfl) (by kernel_rfl) (by kernel_rfl) (fun _ _ _ h => h) (Or.inl ⟨by rfl, ?yglow11⟩) (by assumption) ?rglow11
          case yglow11 => (intro w hSw; (try dsimp only at hSw); go_simp; try with_reducible rfl)
          try simp only [Act.put, List.setIfInBounds_toArray, List.set_cons_zero, List.set_cons_succ]
          refine wpAnyH_take (i := 12) (v := ?vglow12) (List.getElem?_toArray.trans rfl) (by kernel_rfl) (by kernel_rfl) (by kernel_rfl) (fun _ _ _ h => h) (Or.inl ⟨by rfl, ?yglow12⟩) (by assumption) ?rglow12
          case yglow12 => (intro w hSw; (try dsimp only at hSw); go_simp; try with_reducible rfl)
          try simp only [Act.put, List.setIfInBounds_toArray, List.set_cons_zero, List.set_cons_succ]
          refine wpAnyH_take (i := 13) (v := ?vglow13) (List.getElem?_toArray.trans rfl) (by kernel_rfl) (by kernel_rfl) (by kernel_rfl) (fun _ _ _ h => h) (Or.inl ⟨by rfl, ?yglow13⟩) (by assumption) ?rglow13
          case yglow13 => (intro w hSw; (try dsimp only at hSw); go_simp; try with_reducible rfl)
          try simp only [Act.put, List.setIfInBounds_toArray, List.set_cons_zero, List.set_cons_succ]
          refine wpAnyH_take (i := 14) (v := ?vglow14) (List.getElem?_toArray.trans rfl) (by kernel_rfl) (by kernel_rfl) (by kernel_rfl) (fun _ _ _ h => h) (Or.inl ⟨by rfl, ?yglow14⟩) (by assumption) ?rglow14
          case yglow14 => (intro w hSw; (try dsimp only at hSw); go_simp; try with_reducible rfl)
          try simp only [Act.put, List.setIfInBounds_toArray, List.set_cons_zero, List.set_cons_succ]
          refine wpAnyH_take (i := 15) (v := undef) (List.getElem?_toArray.trans rfl) (by kernel_rfl) (by kernel_rfl) (by kernel_rfl) (fun _ _ _ h => h) (Or.inr ⟨by first | (simp [Region.wanted, yielded]; done) | simp [Region.wanted, yielded, undef], rfl⟩) (by assumption) ?_
          try simp only [Act.put, List.setIfInBounds_toArray, List.set_cons_zero, List.set_cons_succ]
          refine wpAnyH_take (i := 16) (v := undef) (List.getElem?_toArray.trans rfl) (by kernel_rfl) (by kernel_rfl) (by kernel_rfl) (fun _ _ _ h => h) (Or.inr ⟨by first | (simp [Region.wanted, yielded]; done) | simp [Region.wanted, yielded, undef], rfl⟩) (by assumption) ?_
          try simp only [Act.put, List.setIfInBounds_toArray, List.set_cons_zero, List.set_cons_succ]
          refine wpAnyH_take (i := 17) (v := ?vglow17) (List.getElem?_toArray.trans rfl) (by kernel_rfl) (by kernel_rfl) (by kernel_rfl) (fun _ _ _ h => h) (Or.inl ⟨by rfl, ?yglow17⟩) (by assumption) ?rglow17
          case yglow17 => (intro w hSw; (try dsimp only at hSw); go_simp; try with_reducible rfl)
          try simp only [Act.put, List.setIfInBounds_toArray, List.set_cons_zero, List.set_cons_succ]
          refine wpAnyH_take (i := 18) (v := ?vglow18) (List.getElem?_toArray.trans rfl) (by kernel_rfl) (by kernel_rfl) (by kernel_rfl) (fun _ _ _ h => h) (Or.inl ⟨by rfl, ?yglow18⟩) (by assumption) ?rglow18
          case yglow18 => (intro w hSw; (try dsimp only at hSw); go_simp; try with_reducible rfl)
          try simp only [Act.put, List.setIfInBounds_toArray, List.set_cons_zero, List.set_cons_succ]
          refine wpAnyH_take (i := 19) (v := ?vglow19) (List.getElem?_toArray.trans rfl) (by kernel_rfl) (by kernel_rfl) (by kernel_rfl) (fun _ _ _ h => h) (Or.inl ⟨by rfl, ?yglow19⟩) (by assumption) ?rglow19
          case yglow19 => (intro w hSw; (try dsimp only at hSw); go_simp; try with_reducible rfl)
          try simp only [Act.put, List.setIfInBounds_toArray, List.set_cons_zero, List.set_cons_succ]
          refine wpAnyH_take (i := 20) (v := ?vglow20) (List.getElem?_toArray.trans rfl) (by kernel_rfl) (by kernel_rfl) (by kernel_rfl) (fun _ _ _ h => h) (Or.inl ⟨by rfl, ?yglow20⟩) (by assumption) ?rglow20
          case yglow20 => (intro w hSw; (try dsimp only at hSw); go_simp; try with_reducible rfl)
          try simp only [Act.put, List.setIfInBounds_toArray, List.set_cons_zero, List.set_cons_succ]
          refine wpAnyH_take (i := 21) (v := ?vglow21) (List.getElem?_toArray.trans rfl) (by kernel_rfl) (by kernel_rfl) (by kernel_rfl) (fun _ _ _ h => h) (Or.inl ⟨by rfl, ?yglow21⟩) (by assumption) ?rglow21
          case yglow21 => (intro w hSw; (try dsimp only at hSw); go_simp; try with_reducible rfl)
          try simp only [Act.put, List.setIfInBounds_toArray, List.set_cons_zero, List.set_cons_succ]
          refine wpAnyH_take (i := 22) (v := ?vglow22) (List.getElem?_toArray.trans rfl) (by kernel_rfl) (by kernel_rfl) (by kernel_rfl) (fun _ _ _ h => h) (Or.inl ⟨by rfl, ?yglow22⟩) (by assumption) ?rglow22
          case yglow22 => (intro w hSw; (try dsimp only at hSw); go_simp; try with_reducible rfl)
          try simp only [Act.put, List.setIfInBounds_toArray, List.set_cons_zero, List.set_cons_succ]
          refine wpAnyH_take (i := 23) (v := ?vglow23) (List.getElem?_toArray.trans rfl) (by kernel_rfl) (by kernel_rfl) (by kernel_rfl) (fun _ _ _ h => h) (Or.inl ⟨by rfl, ?yglow23⟩) (by assumption) ?rglow23
          case yglow23 => (intro w hSw; (try dsimp only at hSw); go_simp; try with_reducible rfl)
          try simp only [Act.put, List.setIfInBounds_toArray, List.set_cons_zero, List.set_cons_succ]
          refine wpAnyH_take (i := 24) (v := undef) (List.getElem?_toArray.trans rfl) (by kernel_rfl) (by kernel_rfl) (by kernel_rfl) (fun _ _ _ h => h) (Or.inr ⟨by first | (simp [Region.wanted, yielded]; done) | simp [Region.wanted, yielded, undef], rfl⟩) (by assumption) ?_
          try simp only [Act.put, List.setIfInBounds_toArray, List.set_cons_zero, List.set_cons_succ]
          refine wpAnyH_take (i := 25) (v := undef) (List.getElem?_toArray.trans rfl) (by kernel_rfl) (by kernel_rfl) (by kernel_rfl) (fun _ _ _ h => h) (Or.inr ⟨by first | (simp [Region.wanted, yielded]; done) | simp [Region.wanted, yielded, undef], rfl⟩) (by assumption) ?_
          try simp only [Act.put, List.setIfInBounds_toArray, List.set_cons_zero, List.set_cons_succ]
          refine wpAnyH_take (i := 26) (v := undef) (List.getElem?_toArray.trans rfl) (by kernel_rfl) (by kernel_rfl) (by kernel_rfl) (fun _ _ _ h => h) (Or.inr ⟨by first | (simp [Region.wanted, yielded]; done) | simp [Region.wanted, yielded, undef], rfl⟩) (by assumption) ?_
          try simp only [Act.put, List.setIfInBounds_toArray, List.set_cons_zero, List.set_cons_succ]
          refine wpAnyH_take (i := 27) (v := undef) (List.getElem?_toArray.trans rfl) (by kernel_rfl) (by kernel_rfl) (by kernel_rfl) (fun _ _ _ h => h) (Or.inr ⟨by first | (simp [Region.wanted, yielded]; done) | simp [Region.wanted, yielded, undef], rfl⟩) (by assumption) ?_
          try simp only [Act.put, List.setIfInBounds_toArray, List.set_cons_zero, List.set_cons_succ]
          refine wpAnyH_take (i := 28) (v := undef) (List.getElem?_toArray.trans rfl) (by kernel_rfl) (by kernel_rfl) (by kernel_rfl) (fun _ _ _ h => h) (Or.inr ⟨by first | (simp [Region.wanted, yielded]; done) | simp [Region.wanted, yielded, undef], rfl⟩) (by assumption) ?_
          try simp only [Act.put, List.setIfInBounds_toArray, List.set_cons_zero, List.set_cons_succ]
          refine wpAnyH_take (i := 29) (v := undef) (List.getElem?_toArray.trans rfl) (by kernel_rfl) (by kernel_rfl) (by kernel_rfl) (fun _ _ _ h => h) (Or.inr ⟨by first | (simp [Region.wanted, yielded]; done) | simp [Region.wanted, yielded, undef], rfl⟩) (by assumption) ?_
          try simp only [Act.put, List.setIfInBounds_toArray, List.set_cons_zero, List.set_cons_succ]
          refine wpAnyH_take (i := 30) (v := ?vglow30) (List.getElem?_toArray.trans rfl) (by kernel_rfl) (by kernel_rfl) (by kernel_rfl) (fun _ _ _ h => h) (Or.inl ⟨by rfl, ?yglow30⟩) (by assumption) ?rglow30
          case yglow30 => (intro w hSw; (try dsimp only at hSw); go_simp; try with_reducible rfl)
          try simp only [Act.put, List.setIfInBounds_toArray, List.set_cons_zero, List.set_cons_succ]
          refine wpAnyH_take (i := 31) (v := ?vglow31) (List.getElem?_toArray.trans rfl) (by kernel_rfl) (by kernel_rfl) (by kernel_rfl) (fun _ _ _ h => h) (Or.inl ⟨by rfl, ?yglow31⟩) (by assumption) ?rglow31
          case yglow31 => (intro w hSw; (try dsimp only at hSw); go_simp; try with_reducible rfl)
          try simp only [Act.put, List.setIfInBounds_toArray, List.set_cons_zero, List.set_cons_succ]
          refine wpAnyH_done (by kernel_rfl) ?_ _
          clear s9
          go_wp2_with fail
          go_meet
          case rel => exact ⟨rfl, hC⟩
    · have k1' : (k == 1) = false := by simpa using k1
      have hQ0 := han (fun e => k1 e.1)
      rw [hQ0] at hm2
      have hm0 : m = 0 := hm2.symm
      subst hm0
      clear oQ hay han hm2 hxn hA
      have s9 : U4.cell? ⟨bV, 0, none⟩ = some (.slice a0 m0 c0) ∧ U4.cell? ⟨bV, 1, none⟩ = some (.int .i64 t) ∧ U4.cell? ⟨bV, 2, none⟩ = some (.int .i64 s) ∧ U4.cell? ⟨bV, 3, none⟩ = some (.slice a3 m3 c3) ∧ U4.cell? ⟨bV + 1, 0, none⟩ = some (.int .i64 k) ∧ U4.cell? ⟨bV + 1, 1, none⟩ = some (.int .i64 h1) ∧ U4.cell? ⟨bV + 1, 2, none⟩ = some (.int .i64 h2) ∧ U4.cell? ⟨bV + 1, 3, none⟩ = some (.int .i64 h3) := ⟨qV.at rfl, qV.at rfl, qV.at rfl, qV.at rfl, qW.at rfl, qW.at rfl, qW.at rfl, qW.at rfl⟩
      refine wp_region_held_drew (S := (fun w' => w'.cell? ⟨bV, 0, none⟩ = some (.slice a0 m0 c0) ∧ w'.cell? ⟨bV, 1, none⟩ = some (.int .i64 t) ∧ w'.cell? ⟨bV, 2, none⟩ = some (.int .i64 s) ∧ w'.cell? ⟨bV, 3, none⟩ = some (.slice a3 m3 c3) ∧ w'.cell? ⟨bV + 1, 0, none⟩ = some (.int .i64 k) ∧ w'.cell? ⟨bV + 1, 1, none⟩ = some (.int .i64 h1) ∧ w'.cell? ⟨bV + 1, 2, none⟩ = some (.int .i64 h2) ∧ w'.cell? ⟨bV + 1, 3, none⟩ = some (.int .i64 h3))) (by kernel_rfl) (by rw [hU4]; exact s9) (fun hHeld => ?_)
      rw [hU4]
      clear hU4
      refine wpAnyH_take (i := 0) (v := ?vgkind0) (List.getElem?_toArray.trans rfl) (by kernel_rfl) (by kernel_rfl) (by kernel_rfl) (fun _ _ _ h => h) (Or.inl ⟨by rfl, ?ygkind0⟩) (by assumption) ?rgkind0
      case ygkind0 => (intro w hSw; (try dsimp only at hSw); go_simp; try with_reducible rfl)
      try simp only [Act.put, List.setIfInBounds_toArray, List.set_cons_zero, List.set_cons_succ]
      refine wpAnyH_take (i := 1) (v := ?vgkind1) (List.getElem?_toArray.trans rfl) (by kernel_rfl) (by kernel_rfl) (by kernel_rfl) (fun _ _ _ h => h) (Or.inl ⟨by rfl, ?ygkind1⟩) (by assumption) ?rgkind1
      case ygkind1 => (intro w hSw; (try dsimp only at hSw); go_simp; try with_reducible rfl)
      try simp only [Act.put, List.setIfInBounds_toArray, List.set_cons_zero, List.set_cons_succ]
      refine wpAnyH_take (i := 2) (v := ?vgkind2) (List.getElem?_toArray.trans rfl) (by kernel_rfl) (by kernel_rfl) (by kernel_rfl) (fun _ _ _ h => h) (Or.inl ⟨by rfl, ?ygkind2⟩) (by assumption) ?rgkind2
      case ygkind2 => (intro w hSw; (try dsimp only at hSw); go_simp; try with_reducible rfl)
      try simp only [Act.put, List.setIfInBounds_toArray, List.set_cons_zero, List.set_cons_succ]
      refine wpAnyH_take (i := 3) (v := ?vgkind3) (List.getElem?_toArray.trans rfl) (by kernel_rfl) (by kernel_rfl) (by kernel_rfl) (fun _ _ _ h => h) (Or.inl ⟨by rfl, ?ygkind3⟩) (by assumption) ?rgkind3
      case ygkind3 => (intro w hSw; (try dsimp only at hSw); go_simp; try with_reducible rfl)
      try simp only [Act.put, List.setIfInBounds_toArray, List.set_cons_zero, List.set_cons_succ]
      refine wpAnyH_take (i := 4) (v := ?vgkind4) (List.getElem?_toArray.trans rfl) (by kernel_rfl) (by kernel_rfl) (by kernel_rfl) (fun _ _ _ h => h) (Or.inl ⟨by rfl, ?ygkind4⟩) (by assumption) ?rgkind4
      case ygkind4 => (intro w hSw; (try dsimp only at hSw); go_simp; try with_reducible rfl)
      try simp only [Act.put, List.setIfInBounds_toArray, List.set_cons_zero, List.set_cons_succ]
      refine wpAnyH_take (i := 5) (v := ?vgkind5) (List.getElem?_toArray.trans rfl) (by kernel_rfl) (by kernel_rfl) (by kernel_rfl) (fun _ _ _ h => h) (Or.inl ⟨by rfl, ?ygkind5⟩) (by assumption) ?rgkind5
      case ygkind5 => (intro w hSw; (try dsimp only at hSw); go_simp; try with_reducible rfl)
      try simp only [Act.put, List.setIfInBounds_toArray, List.set_cons_zero, List.set_cons_succ]
      refine wpAnyH_take (i := 6) (v := ?vgkind6) (List.getElem?_toArray.trans rfl) (by kernel_rfl) (by kernel_rfl) (by kernel_rfl) (fun _ _ _ h => h) (Or.inl ⟨by rfl, ?ygkind6⟩) (by assumption) ?rgkind6
      case ygkind6 => (intro w hSw; (try dsimp only at hSw); go_simp; try with_reducible rfl)
      try simp only [Act.put, List.setIfInBounds_toArray, List.set_cons_zero, List.set_cons_succ]
      refine wpAnyH_take (i := 7) (v := undef) (List.getElem?_toArray.trans rfl) (by kernel_rfl) (by kernel_rfl) (by kernel_rfl) (fun _ _ _ h => h) (Or.inr ⟨by first | (simp [Region.wanted, yielded]; done) | simp [Region.wanted, yielded, undef], rfl⟩) (by assumption) ?_
      try simp only [Act.put, List.setIfInBounds_toArray, List.set_cons_zero, List.set_cons_succ]
      refine wpAnyH_take (i := 8) (v := undef) (List.getElem?_toArray.trans rfl) (by kernel_rfl) (by kernel_rfl) (by kernel_rfl) (fun _ _ _ h => h) (Or.inr ⟨by first | (simp [Region.wanted, yielded]; done) | simp [Region.wanted, yielded, undef], rfl⟩) (by assumption) ?_
      try simp only [Act.put, List.setIfInBounds_toArray, List.set_cons_zero, List.set_cons_succ]
      refine wpAnyH_take (i := 9) (v := ?vgkind9) (List.getElem?_toArray.trans rfl) (by kernel_rfl) (by kernel_rfl) (by kernel_rfl) (fun _ _ _ h => h) (Or.inl ⟨by rfl, ?ygkind9⟩) (by assumption) ?rgkind9
      case ygkind9 => (intro w hSw; (try dsimp only at hSw); go_simp; try with_reducible rfl)
      try simp only [Act.put, List.setIfInBounds_toArray, List.set_cons_zero, List.set_cons_succ]
      refine wpAnyH_take (i := 10) (v := ?vgkind10) (List.getElem?_toArray.trans rfl) (by kernel_rfl) (by kernel_rfl) (by kernel_rfl) (fun _ _ _ h => h) (Or.inl ⟨by rfl, ?ygkind10⟩) (by assumption) ?rgkind10
      case ygkind10 => (intro w hSw; (try dsimp only at hSw); go_simp; try with_reducible rfl)
      try simp only [Act.put, List.setIfInBounds_toArray, List.set_cons_zero, List.set_cons_succ]
      refine wpAnyH_take (i := 11) (v := undef) (List.getElem?_toArray.trans rfl) (by kernel_rfl) (by kernel_rfl) (by kernel_rfl) (fun _ _ _ h => h) (Or.inr ⟨by first | (simp [Region.wanted, yielded]; done) | simp [Region.wanted, yielded, undef], rfl⟩) (by assumption) ?_
      try simp only [Act.put, List.setIfInBounds_toArray, List.set_cons_zero, List.set_cons_succ]
      refine wpAnyH_take (i := 12) (v := undef) (List.getElem?_toArray.trans rfl) (by kernel_rfl) (by kernel_rfl) (by kernel_rfl) (fun _ _ _ h => h) (Or.inr ⟨by first | (simp [Region.wanted, yielded]; done) | simp [Region.wanted, yielded, undef], rfl⟩) (by assumption) ?_
      try simp only [Act.put, List.setIfInBounds_toArray, List.set_cons_zero, List.set_cons_succ]
      refine wpAnyH_take (i := 13) (v := ?vgkind13) (List.getElem?_toArray.trans rfl) (by kernel_rfl) (by kernel_rfl) (by kernel_rfl) (fun _ _ _ h => h) (Or.inl ⟨by rfl, ?ygkind13⟩) (by assumption) ?rgkind13
      case ygkind13 => (intro w hSw; (try dsimp only at hSw); go_simp; try with_reducible rfl)
      try simp only [Act.put, List.setIfInBounds_toArray, List.set_cons_zero, List.set_cons_succ]
      refine wpAnyH_take (i := 14) (v := ?vgkind14) (List.getElem?_toArray.trans rfl) (by kernel_rfl) (by kernel_rfl) (by kernel_rfl) (fun _ _ _ h => h) (Or.inl ⟨by rfl, ?ygkind14⟩) (by assumption) ?rgkind14
      case ygkind14 => (intro w hSw; (try dsimp only at hSw); go_simp; try with_reducible rfl)
      try simp only [Act.put, List.setIfInBounds_toArray, List.set_cons_zero, List.set_cons_succ]
      refine wpAnyH_take (i := 15) (v := undef) (List.getElem?_toArray.trans rfl) (by kernel_rfl) (by kernel_rfl) (by kernel_rfl) (fun _ _ _ h => h) (Or.inr ⟨by first | (simp [Region.wanted, yielded]; done) | simp [Region.wanted, yielded, undef], rfl⟩) (by assumption) ?_
      try simp only [Act.put, List.setIfInBounds_toArray, List.set_cons_zero, List.set_cons_succ]
      refine wpAnyH_take (i := 16) (v := undef) (List.getElem?_toArray.trans rfl) (by kernel_rfl) (by kernel_rfl) (by kernel_rfl) (fun _ _ _ h => h) (Or.inr ⟨by first | (simp [Region.wanted, yielded]; done) | simp [Region.wanted, yielded, undef], rfl⟩) (by assumption) ?_
      try simp only [Act.put, List.setIfInBounds_toArray, List.set_cons_zero, List.set_cons_succ]
      refine wpAnyH_take (i := 17) (v := ?vgkind17) (List.getElem?_toArray.trans rfl) (by kernel_rfl) (by kernel_rfl) (by kernel_rfl) (fun _ _ _ h => h) (Or.inl ⟨by rfl, ?ygkind17⟩) (by assumption) ?rgkind17
      case ygkind17 => (intro w hSw; (try dsimp only at hSw); go_simp; try with_reducible rfl)
      try simp only [Act.put, List.setIfInBounds_toArray, List.set_cons_zero, List.set_cons_succ]
      refine wpAnyH_take (i := 18) (v := ?vgkind18) (List.getElem?_toArray.trans rfl) (by kernel_rfl) (by kernel_rfl) (by kernel_rfl) (fun _ _ _ h => h) (Or.inl ⟨by rfl, ?ygkind18⟩) (by assumption) ?rgkind18
      case ygkind18 => (intro w hSw; (try dsimp only at hSw); go_simp; try with_reducible rfl)
      try simp only [Act.put, List.setIfInBounds_toArray, List.set_cons_zero, List.set_cons_succ]
      refine wpAnyH_take (i := 19) (v := ?vgkind19) (List.getElem?_toArray.trans rfl) (by kernel_rfl) (by kernel_rfl) (by kernel_rfl) (fun _ _ _ h => h) (Or.inl ⟨by rfl, ?ygkind19⟩) (by assumption) ?rgkind19
      case ygkind19 => (intro w hSw; (try dsimp only at hSw); go_simp; try with_reducible rfl)
      try simp only [Act.put, List.setIfInBounds_toArray, List.set_cons_zero, List.set_cons_succ]
      refine wpAnyH_take (i := 20) (v := ?vgkind20) (List.getElem?_toArray.trans rfl) (by kernel_rfl) (by kernel_rfl) (by kernel_rfl) (fun _ _ _ h => h) (Or.inl ⟨by rfl, ?ygkind20⟩) (by assumption) ?rgkind20
      case ygkind20 => (intro w hSw; (try dsimp only at hSw); go_simp; try with_reducible rfl)
      try simp only [Act.put, List.setIfInBounds_toArray, List.set_cons_zero, List.set_cons_succ]
      refine wpAnyH_take (i := 21) (v := ?vgkind21) (List.getElem?_toArray.trans rfl) (by kernel_rfl) (by kernel_rfl) (by kernel_rfl) (fun _ _ _ h => h) (Or.inl ⟨by rfl, ?ygkind21⟩) (by assumption) ?rgkind21
      case ygkind21 => (intro w hSw; (try dsimp only at hSw); go_simp; try with_reducible rfl)
      try simp only [Act.put, List.setIfInBounds_toArray, List.set_cons_zero, List.set_cons_succ]
      refine wpAnyH_take (i := 22) (v := ?vgkind22) (List.getElem?_toArray.trans rfl) (by kernel_rfl) (by kernel_rfl) (by kernel_rfl) (fun _ _ _ h => h) (Or.inl ⟨by rfl, ?ygkind22⟩) (by assumption) ?rgkind22
      case ygkind22 => (intro w hSw; (try dsimp only at hSw); go_simp; try with_reducible rfl)
      try simp only [Act.put, List.setIfInBounds_toArray, List.set_cons_zero, List.set_cons_succ]
      refine wpAnyH_take (i := 23) (v := ?vgkind23) (List.getElem?_toArray.trans rfl) (by kernel_rfl) (by kernel_rfl) (by kernel_rfl) (fun _ _ _ h => h) (Or.inl ⟨by rfl, ?ygkind23⟩) (by assumption) ?rgkind23
      case ygkind23 => (intro w hSw; (try dsimp only at hSw); go_simp; try with_reducible rfl)
      try simp only [Act.put, List.setIfInBounds_toArray, List.set_cons_zero, List.set_cons_succ]
      refine wpAnyH_take (i := 24) (v := undef) (List.getElem?_toArray.trans rfl) (by kernel_rfl) (by kernel_rfl) (by kernel_rfl) (fun _ _ _ h => h) (Or.inr ⟨by first | (simp [Region.wanted, yielded]; done) | simp [Region.wanted, yielded, undef], rfl⟩) (by assumption) ?_
      try simp only [Act.put, List.setIfInBounds_toArray, List.set_cons_zero, List.set_cons_succ]
      refine wpAnyH_take (i := 25) (v := undef) (List.getElem?_toArray.trans rfl) (by kernel_rfl) (by kernel_rfl) (by kernel_rfl) (fun _ _ _ h => h) (Or.inr ⟨by first | (simp [Region.wanted, yielded]; done) | simp [Region.wanted, yielded, undef], rfl⟩) (by assumption) ?_
      try simp only [Act.put, List.setIfInBounds_toArray, List.set_cons_zero, List.set_cons_succ]
      refine wpAnyH_take (i := 26) (v := undef) (List.getElem?_toArray.trans rfl) (by kernel_rfl) (by kernel_rfl) (by kernel_rfl) (fun _ _ _ h => h) (Or.inr ⟨by first | (simp [Region.wanted, yielded]; done) | simp [Region.wanted, yielded, undef], rfl⟩) (by assumption) ?_
      try simp only [Act.put, List.setIfInBounds_toArray, List.set_cons_zero, List.set_cons_succ]
      refine wpAnyH_take (i := 27) (v := undef) (List.getElem?_toArray.trans rfl) (by kernel_rfl) (by kernel_rfl) (by kernel_rfl) (fun _ _ _ h => h) (Or.inr ⟨by first | (simp [Region.wanted, yielded]; done) | simp [Region.wanted, yielded, undef], rfl⟩) (by assumption) ?_
      try simp only [Act.put, List.setIfInBounds_toArray, List.set_cons_zero, List.set_cons_succ]
      refine wpAnyH_take (i := 28) (v := undef) (List.getElem?_toArray.trans rfl) (by kernel_rfl) (by kernel_rfl) (by kernel_rfl) (fun _ _ _ h => h) (Or.inr ⟨by first | (simp [Region.wanted, yielded]; done) | simp [Region.wanted, yielded, undef], rfl⟩) (by assumption) ?_
      try simp only [Act.put, List.setIfInBounds_toArray, List.set_cons_zero, List.set_cons_succ]
      refine wpAnyH_take (i := 29) (v := undef) (List.getElem?_toArray.trans rfl) (by kernel_rfl) (by kernel_rfl) (by kernel_rfl) (fun _ _ _ h => h) (Or.inr ⟨by first | (simp [Region.wanted, yielded]; done) | simp [Region.wanted, yielded, undef], rfl⟩) (by assumption) ?_
      try simp only [Act.put, List.setIfInBounds_toArray, List.set_cons_zero, List.set_cons_succ]
      refine wpAnyH_take (i := 30) (v := ?vgkind30) (List.getElem?_toArray.trans rfl) (by kernel_rfl) (by kernel_rfl) (by kernel_rfl) (fun _ _ _ h => h) (Or.inl ⟨by rfl, ?ygkind30⟩) (by assumption) ?rgkind30
      case ygkind30 => (intro w hSw; (try dsimp only at hSw); go_simp; try with_reducible rfl)
      try simp only [Act.put, List.setIfInBounds_toArray, List.set_cons_zero, List.set_cons_succ]
      refine wpAnyH_take (i := 31) (v := ?vgkind31) (List.getElem?_toArray.trans rfl) (by kernel_rfl) (by kernel_rfl) (by kernel_rfl) (fun _ _ _ h => h) (Or.inl ⟨by rfl, ?ygkind31⟩) (by assumption) ?rgkind31
      case ygkind31 => (intro w hSw; (try dsimp only at hSw); go_simp; try with_reducible rfl)
      try simp only [Act.put, List.setIfInBounds_toArray, List.set_cons_zero, List.set_cons_succ]
      refine wpAnyH_done (by kernel_rfl) ?_ _
      clear s9
      go_wp2_with fail
      go_meet
      case rel => exact ⟨rfl, hC⟩
  case rest =>
  obtain ⟨rfl, hy⟩ := hcut
  have hB := hB.trans (hy.mono (by omega))
  have hw9 := HB1.out.trans (hB.mono hwb)
  clear hy oQ uQ hay han hm2 hxn hVis hVisS qV qW HM
  have hDr := draw_value w.heap.size a n0 c wc (hb0.below hw9) hw9.size
  go_wp2_with fail
  go_at_call 14
  refine hDr.mono ?_
  rintro e w12 ⟨rk, r1, r2, r3, ra, rn, rc, rz, hrk, _, _, _, rfl, hrow, hrc, hrm2, hrn, hy⟩
  have hw12 := hw9.trans (hy.mono hw9.size)
  have hrl := hrow.len
  obtain ⟨W13, hW13⟩ : ∃ Z, w12.alloc (.cells #[.int .i64 rk, .slice ra rn rc, .int .i64 r1, .int .i64 r2, .int .i64 r3] 39) = Z := ⟨_, rfl⟩
  obtain ⟨bR, hbR⟩ : ∃ b, w12.heap.size = b := ⟨_, rfl⟩
  have qR : Blk 39 bR [.int .i64 rk, .slice ra rn rc, .int .i64 r1, .int .i64 r2, .int .i64 r3] W13 := by rw [← hW13, ← hbR]; exact Blk.new _ [_, _, _, _, _] w12
  have hA : Below w12.heap.size w12 W13 := by rw [← hW13]; exact (Below.refl _ _).alloc (Nat.le_refl _) _
  have hw13 := hw12.trans (hA.mono hw12.size)
  have hrow := hrow.below hA
  have hrz : w12.heap.size ≤ W13.heap.size := hA.size
  have HW13 := Lib.hid hW13
  have HBR := Lib.hid hbR
  obtain ⟨R, hR⟩ : ∃ R : TResource, (⟨rk, rz, ⟨r1, r2, r3⟩⟩ : TResource) = R := ⟨_, rfl⟩
  have hlie : Lies 0 w12.heap.size W13 (ints R.f1) (.slice ra R.f1.length rc) := by
    subst hR
    have := Lies.of_row (c := rc) hrow (by omega) hrm2
    dsimp only
    rw [hrl]
    exact this.more (Nat.zero_le _) (Nat.le_refl _)
  have hval := KV.value 0 w12.heap.size R W13 ra rc hlie hrz (by subst hR; dsimp only; omega)
  have hin := valueR_in R
  have hhas : hasR R = (okRes R && decide (rk ≤ 2)) := by subst hR; rfl
  have hvald := fun (U : World) (hb : Below W13.heap.size W13 U) => valid_impl (wc.heap.size + 1) w12.heap.size rk r1 r2 r3 U ra rn rc rz (hrow.below hb)
  have hok : okR rk r1 r2 r3 rn rz = okRes R := by subst hR; unfold okRes; dsimp only; rw [hrl]
  simp only [hok] at hvald
  obtain ⟨y, hyv⟩ : ∃ y, valueR R = y := ⟨_, rfl⟩
  obtain ⟨okb, hokb⟩ : ∃ b, okRes R = b := ⟨_, rfl⟩
  rw [hyv] at hval hin
  simp only [hokb] at hvald
  rw [hokb] at hhas
  rw [hhas] at hin
  have hval2 : Calls Try.prog 15 #[.agg #[.int .i64 rk, .slice ra rn rc, .int .i64 r1, .int .i64 r2, .int .i64 r3]] W13 (fun e w' => e = .returned (.int .i64 y) ∧ Below W13.heap.size W13 w') := by
    subst hR
    dsimp only at hval
    rw [hrl] at hval
    exact hval
  clear hW13 hbR hval hlie hhas hok hyv hokb hR hrow hA hy hw9 hw12
  go_upto_region 13 with fail
  try rw [HW13.out]
  try simp only [HBR.out]
  have x0 : W13.cell? ⟨bR, 0, none⟩ = some (.int .i64 rk) := qR.at rfl
  have x1 : W13.cell? ⟨bR, 1, none⟩ = some (.slice ra rn rc) := qR.at rfl
  have x2 : W13.cell? ⟨bR, 2, none⟩ = some (.int .i64 r1) := qR.at rfl
  have x3 : W13.cell? ⟨bR, 3, none⟩ = some (.int .i64 r2) := qR.at rfl
  have x4 : W13.cell? ⟨bR, 4, none⟩ = some (.int .i64 r3) := qR.at rfl
  go_wp2_with fail
  go_at_call 15
  refine hval2.mono ?_
  rintro e w14 ⟨rfl, hy⟩
  have qR := qR.below hy
  have hvd := hvald w14 hy
  have hw14 := hw13.trans (hy.mono hw13.size)
  clear hval2 hvald hy x0 x1 x2 x3 x4
  have x0 : w14.cell? ⟨bR, 0, none⟩ = some (.int .i64 rk) := qR.at rfl
  have x1 : w14.cell? ⟨bR, 1, none⟩ = some (.slice ra rn rc) := qR.at rfl
  have x2 : w14.cell? ⟨bR, 2, none⟩ = some (.int .i64 r1) := qR.at rfl
  have x3 : w14.cell? ⟨bR, 3, none⟩ = some (.int .i64 r2) := qR.at rfl
  have x4 : w14.cell? ⟨bR, 4, none⟩ = some (.int .i64 r3) := qR.at rfl
  have hd1 : decide (y ≥ 0) = true := by rw [decide_eq_true_eq]; omega
  have hd2 : decide (0 ≤ y) = true := hd1
  have hd3 : decide (y ≤ 999) = true := by rw [decide_eq_true_eq]; omega
  go_wp2_with fail
  go_at_call 16
  refine hvd.mono ?_
  rintro e w15 ⟨rfl, hy⟩
  have qR := qR.below hy
  have hw15 := hw14.trans (hy.mono hw14.size)
  clear x0 x1 x2 x3 x4
  have x0 : w15.cell? ⟨bR, 0, none⟩ = some (.int .i64 rk) := qR.at rfl
  cases okb with
  | false =>
    have hy0 : decide (y > 0) = false := by rw [decide_eq_false_iff_not]; intro e; have := hin.2.2.1 e; simp at this
    have hy1 : decide (0 < y) = false := hy0
    go_wp2
    go_ret
    exact ⟨rfl, hw15⟩
  | true =>
    by_cases hk2 : rk ≤ 2
    · have hy0 : decide (y > 0) = true := by rw [decide_eq_true_eq]; exact hin.2.2.2 (by rw [decide_eq_true hk2]; rfl)
      have hy1 : decide (0 < y) = true := hy0
      have hk3 : decide (rk ≤ 2) = true := decide_eq_true hk2
      go_wp2
      go_ret
      exact ⟨rfl, hw15⟩
    · have hy0 : decide (y > 0) = false := by rw [decide_eq_false_iff_not]; intro e; have := hin.2.2.1 e; rw [decide_eq_false hk2] at this; simp at this
      have hy1 : decide (0 < y) = false := hy0
      have hk3 : decide (rk ≤ 2) = false := decide_eq_false hk2
      go_wp2
      go_ret
      exact ⟨rfl, hw15⟩
end Go.Proofs.Ytagnhfalmefbhaa.FnVisitsW
