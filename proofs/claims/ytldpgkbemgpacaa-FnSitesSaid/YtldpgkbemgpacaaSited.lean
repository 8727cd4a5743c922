/-
  The draw of an address that is asked of a site. The draw of a site, an address and a tick.
  Conditions: as each theorem states them.
-/
import Derived.Test.YtldpgkbemgpacaaDraws9
import Derived.Deep.RegionHeld3
import Derived.Deep.RegionLaw
namespace Go.Proofs.Ytldpgkbemgpacaa.Draw
open Go Go.RowKit Go.Proofs.Ytldpgkbemgpacaa.Mem Go.Proofs.Ytldpgkbemgpacaa.Gen Go.Proofs.Ytldpgkbemgpacaa.Adr Go.Proofs.Ytldpgkbemgpacaa.Res Go.Proofs.Ytldpgkbemgpacaa.Sites

/-- An address by value. -/
def IsA (e : Ending) : Prop := ∃ A : TAddress, WfA A ∧ e = .returned (.agg #[.int .i64 A.f0, .int .i64 A.f1, .int .i64 A.f2])
theorem lies_only {lo hi p : Nat} {w w' : World} {d : Dat} {v : Value} (h : Lies lo hi w d v) (ho : Only p w w') (hp : p < lo) : Lies lo hi w' d v := h.keep fun i hi h0 _ => ho.block i hi (by omega)

set_option maxHeartbeats 2000000 in
set_option maxRecDepth 100000 in
theorem ask9 (B p lo hi : Nat) (w : World) (hc : Cur 91 B p w) (hp : p < lo) (L : Option Addr) (c n : Nat) (l : List TVersion) (hL : Lies lo hi w (dVersion l) (.slice L n c)) (hn : n ≤ 1048576) :
    Calls Try.prog 39 #[.pointer (some ⟨p, 0, none⟩), .slice L n c] w fun e w' => IsA e ∧ Cur 91 B p w' ∧ Only p w w' := by
  have hpl := hc.lt
  have hBp := hc.1
  have tA := Trio.new 26 (.int .i64 0) (.int .i64 0) (.int .i64 0) w
  have hc0 : Cur 91 B p (w.alloc (.cells #[.int .i64 0, .int .i64 0, .int .i64 0] 26)) := hc.below ((Below.refl _ _).alloc (Nat.le_refl _) _)
  have ho0 := (Only.refl p w).alloc (.cells #[.int .i64 0, .int .i64 0, .int .i64 0] 26)
  have hL0 := hL.below ((Below.refl w.heap.size w).alloc (Nat.le_refl _) (.cells #[.int .i64 0, .int .i64 0, .int .i64 0] 26))
  go_enter Try.func39, Try.ntmps39
  by_cases h0 : n = 0
  · subst h0
    go_wp2_with fail
    go_at_call 47
    refine (draw4 B p _ hc0).mono ?_
    rintro e w1 ⟨⟨h, q, r, hh, hq, hr, rfl⟩, hc1, ho1⟩
    have tF := trio_only tA ho1 (by omega)
    have hO := ho0.trans ho1
    obtain ⟨a0, a1, a2⟩ := tF.cells
    obtain ⟨f0, f1, f2⟩ := tF.frozen
    clear tA hc0 ho0 ho1 hc
    go_wp2
    have g0 := (tF.set0 (.int .i64 h)).cells.1
    have g1 := ((tF.set0 (.int .i64 h)).set1 (.int .i64 q)).cells.2.1
    have g2 := (((tF.set0 (.int .i64 h)).set1 (.int .i64 q)).set2 (.int .i64 r)).cells.2.2
    refine bodyPost_ret (v := (Value.agg #[Value.int IntKind.i64 (h), Value.int IntKind.i64 (q), Value.int IntKind.i64 (r)])) (by simp [results, Try.results39, go_sem, g0, g1, g2]) rfl ⟨⟨⟨h, q, r⟩, ⟨wf9 hh, wf9 hq, wf9 hr⟩, rfl⟩, ?_, ((hO.setNew (Nat.le_refl _) _).setNew (Nat.le_refl _) _).setNew (Nat.le_refl _) _⟩
    exact ((hc1.only_new (by simp; omega) (by simp; omega) _).only_new (by simp; omega) (by simp; omega) _).only_new (by simp; omega) (by simp; omega) _
  · have hd : decide ((n : Int) > 0) = true := by simp; omega
    have hd' : decide (0 < (n : Int)) = true := by simp; omega
    go_wp2_with fail
    go_at_call 63
    refine (once_any B p _ _ hc0 (by omega) (by omega)).mono ?_
    rintro e w1 ⟨⟨b, rfl⟩, hc1, ho1⟩
    have t1 := trio_only tA ho1 (by omega)
    have hO1 := ho0.trans ho1
    have hL1 := lies_only hL0 ho1 hp
    clear tA hc0 ho0 ho1 hc hL0
    cases b
    · go_wp2_with fail
      go_at_call 47
      refine (draw4 B p _ hc1).mono ?_
      rintro e w2 ⟨⟨h, q, r, hh, hq, hr, rfl⟩, hc2, ho2⟩
      have tF := trio_only t1 ho2 (by omega)
      have hO := hO1.trans ho2
      obtain ⟨a0, a1, a2⟩ := tF.cells
      obtain ⟨f0, f1, f2⟩ := tF.frozen
      clear t1 hc1 hO1 ho2
      go_wp2
      have g0 := (tF.set0 (.int .i64 h)).cells.1
      have g1 := ((tF.set0 (.int .i64 h)).set1 (.int .i64 q)).cells.2.1
      have g2 := (((tF.set0 (.int .i64 h)).set1 (.int .i64 q)).set2 (.int .i64 r)).cells.2.2
      refine bodyPost_ret (v := (Value.agg #[Value.int IntKind.i64 (h), Value.int IntKind.i64 (q), Value.int IntKind.i64 (r)])) (by simp [results, Try.results39, go_sem, g0, g1, g2]) rfl ⟨⟨⟨h, q, r⟩, ⟨wf9 hh, wf9 hq, wf9 hr⟩, rfl⟩, ?_, ((hO.setNew (Nat.le_refl _) _).setNew (Nat.le_refl _) _).setNew (Nat.le_refl _) _⟩
      exact ((hc2.only_new (by simp; omega) (by simp; omega) _).only_new (by simp; omega) (by simp; omega) _).only_new (by simp; omega) (by simp; omega) _
    · go_wp2_with fail
      go_at_call 40
      refine (below_any B p n _ hc1 (by omega) (by omega)).mono ?_
      rintro e w2 ⟨⟨y, hy, rfl⟩, hc2, ho2⟩
      have hy' : y < n := by omega
      have tF := trio_only t1 ho2 (by omega)
      have hO := hO1.trans ho2
      have hL2 := lies_only hL1 ho2 hp
      obtain ⟨b, off, A5, c5, rfl, hb1, hb2, hcv, _, hw0, hw1, hw2, _⟩ := at_Version hL2 hy'
      obtain ⟨d0, d1, d2, _⟩ := hcv.all
      obtain ⟨A, hA⟩ : ∃ A, (l.getD y nVersion).f0 = A := ⟨_, rfl⟩
      rw [hA] at d0 d1 d2 hw0 hw1 hw2
      obtain ⟨a0, a1, a2⟩ := tF.cells
      obtain ⟨f0, f1, f2⟩ := tF.frozen
      clear t1 hc1 hO1 ho2 hL1 hL2 hcv hL hA hy
      go_wp2
      have g0 := (tF.set0 (.int .i64 A.f0)).cells.1
      have g1 := ((tF.set0 (.int .i64 A.f0)).set1 (.int .i64 A.f1)).cells.2.1
      have g2 := (((tF.set0 (.int .i64 A.f0)).set1 (.int .i64 A.f1)).set2 (.int .i64 A.f2)).cells.2.2
      refine bodyPost_ret (v := (Value.agg #[Value.int IntKind.i64 (A.f0), Value.int IntKind.i64 (A.f1), Value.int IntKind.i64 (A.f2)])) (by simp [results, Try.results39, go_sem, g0, g1, g2]) rfl ⟨⟨A, ⟨hw0, hw1, hw2⟩, rfl⟩, ?_, ((hO.setNew (Nat.le_refl _) _).setNew (Nat.le_refl _) _).setNew (Nat.le_refl _) _⟩
      exact ((hc2.only_new (by simp; omega) (by simp; omega) _).only_new (by simp; omega) (by simp; omega) _).only_new (by simp; omega) (by simp; omega) _
end Go.Proofs.Ytldpgkbemgpacaa.Draw
namespace Go.Proofs.Ytldpgkbemgpacaa.Draw
open Go Go.RowKit Go.Proofs.Ytldpgkbemgpacaa.Mem Go.Proofs.Ytldpgkbemgpacaa.Gen Go.Proofs.Ytldpgkbemgpacaa.Adr Go.Proofs.Ytldpgkbemgpacaa.Res Go.Proofs.Ytldpgkbemgpacaa.Sites

/-- A site, an address and a tick. -/
def Asked (m : Nat) (w : World) (e : Ending) (w' : World) : Prop :=
  ∃ (v : Value) (l : List TVersion) (A : TAddress) (t base : Nat), e = .returned (.tuple #[v, .agg #[.int .i64 A.f0, .int .i64 A.f1, .int .i64 A.f2], .int .i64 (t : Int)]) ∧ w.heap.size < base ∧ base ≤ w'.heap.size ∧ Buf 70 base w'.heap.size 9 w' v l.length (vers l) ∧ l.length ≤ m ∧ (∀ P ∈ l, SmallV P) ∧ WfA A ∧ t < 14 ∧ Below w.heap.size w w'

set_option maxHeartbeats 4000000 in
set_option maxRecDepth 100000 in
theorem draw_answer (B : Nat) (a : Option Addr) (n c : Nat) (w : World) (hb : Bytes B w a n) (hB : B ≤ w.heap.size) :
    Calls Try.prog 10 #[.slice a n c] w (Asked 8 w) := by
  have t0 := Trio.new 26 (.int .i64 0) (.int .i64 0) (.int .i64 0) w
  have hb0 : Below w.heap.size w (w.alloc (.cells #[.int .i64 0, .int .i64 0, .int .i64 0] 26)) := (Below.refl _ _).alloc (Nat.le_refl _) _
  go_enter Try.func10, Try.ntmps10
  go_wp2_with fail
  go_at_call 37
  refine (new_any B a n c _ (hb.below hb0) (by simp; omega)).mono ?_
  rintro e w1 ⟨rfl, hc1, hb1⟩
  have t1 := t0.below hb1
  have hB1 := hb0.trans (hb1.mono hb0.size)
  have hs1 := hc1.lt
  rw [size_alloc] at hc1 hs1
  clear hb hb0 hb1 t0
  go_wp2_with fail
  go_at_call 38
  refine (draw9 B _ _ hc1).mono ?_
  rintro e w2 ⟨v, l, rfl, hbuf, hlen, hsm, hc2, ho2⟩
  have hs2 := ho2.size
  have t2 := trio_only t1 ho2 (by omega)
  have hB2 := hB1.trans (ho2.below (B := w.heap.size) (by omega) hB1.size)
  obtain ⟨L, cl, rfl, _, _⟩ := hbuf.shape
  have hLie := hbuf.owns.lies
  obtain ⟨m, hm⟩ : ∃ m, l.length = m := ⟨_, rfl⟩
  rw [hm] at hbuf hlen ⊢
  have HM := Lib.hid hm
  have HS := Lib.hid hsm
  have hLie : Lies w1.heap.size w2.heap.size w2 (dVersion l) (.slice L m cl) := by rw [hm] at hLie; unfold dVersion; rw [hm]; exact hLie
  clear hc1 ho2 hB1 t1 hm hsm
  go_wp2_with fail
  go_at_call 39
  refine (ask9 B _ _ _ _ hc2 hs1 L cl m l hLie (by omega)).mono ?_
  rintro e w3 ⟨⟨A, hA, rfl⟩, hc3, ho3⟩
  have hs3 := ho3.size
  have t3 := (trio_only t2 ho3 (by omega)).alloc (.cells #[.int .i64 A.f0, .int .i64 A.f1, .int .i64 A.f2] 26)
  have qA := Trio.new 26 (.int .i64 A.f0) (.int .i64 A.f1) (.int .i64 A.f2) w3
  have hB3 := hB2.trans (ho3.below (B := w.heap.size) (by omega) hB2.size)
  have hB3 := hB3.alloc hB3.size (.cells #[.int .i64 A.f0, .int .i64 A.f1, .int .i64 A.f2] 26)
  have hbuf3 := (buf_only hbuf ho3 hs1).below ((Below.refl w3.heap.size w3).alloc (Nat.le_refl _) (.cells #[.int .i64 A.f0, .int .i64 A.f1, .int .i64 A.f2] 26))
  have hc4 : Cur 91 B (w.heap.size + 1) (w3.alloc (.cells #[.int .i64 A.f0, .int .i64 A.f1, .int .i64 A.f2] 26)) := hc3.below ((Below.refl _ _).alloc (Nat.le_refl _) _)
  have hZ4 : w3.heap.size < (w3.alloc (.cells #[.int .i64 A.f0, .int .i64 A.f1, .int .i64 A.f2] 26)).heap.size := by rw [gsize_alloc]; omega
  clear hc2 hc3 ho3 hB2 t2 hbuf hLie
  have t3 := t3.drew
  have qA := qA.drew
  have kd := qA.cells
  have hB3 := hB3.drew
  have hbuf3 := hbuf3.drewN 1
  have hcd : Cur 91 B (w.heap.size + 1) (w3.alloc (.cells #[.int .i64 A.f0, .int .i64 A.f1, .int .i64 A.f2] 26)).drew := hc4
  go_wp2_with fail
  go_region_held3 (fun w' => w'.cell? ⟨w3.heap.size, 0, none⟩ = some (.int .i64 A.f0) ∧ w'.cell? ⟨w3.heap.size, 1, none⟩ = some (.int .i64 A.f1) ∧ w'.cell? ⟨w3.heap.size, 2, none⟩ = some (.int .i64 A.f2))
    (first | (with_reducible exact s9) | (with_reducible exact kd) | (with_reducible exact s10) | go_keep)
    (first | (go_at_call 40; refine (below_any B _ _ _ hcd (by omega) (by omega)).mono ?_; rintro e w5 ⟨⟨t, ht, rfl⟩, hc5, ho5⟩; have t5 := trio_only t3 ho5 (by omega); have q5 := trio_only qA ho5 (by omega); have s9 := q5.cells; have s10 := (((q5.other (a := ⟨w.heap.size, 0, none⟩) (.int .i64 A.f0) (by simp; omega)).other (a := ⟨w.heap.size, 1, none⟩) (.int .i64 A.f1) (by simp; omega)).other (a := ⟨w.heap.size, 2, none⟩) (.int .i64 A.f2) (by simp; omega)).cells; have hB5 := hB3.trans (ho5.below (B := w.heap.size) (by omega) hB3.size); have hbuf5 := buf_only hbuf3 ho5 hs1; have hs5 := ho5.size; obtain ⟨v0, v1, v2⟩ := t5.cells; obtain ⟨x0, x1, x2⟩ := t5.frozen))
  all_goals
    have tF := ((t5.set0 (.int .i64 A.f0)).set1 (.int .i64 A.f1)).set2 (.int .i64 A.f2)
    have hZF : Zone 0 (w.heap.size + 1) w5 (((w5.setCell ⟨w.heap.size, 0, none⟩ (.int .i64 A.f0)).setCell ⟨w.heap.size, 1, none⟩ (.int .i64 A.f1)).setCell ⟨w.heap.size, 2, none⟩ (.int .i64 A.f2)) := by
      iterate 3 (refine Zone.setCell ?_ ⟨Nat.zero_le _, by omega⟩ _)
      exact Zone.refl _ _ _
    have hBF : Below w.heap.size w (((w5.setCell ⟨w.heap.size, 0, none⟩ (.int .i64 A.f0)).setCell ⟨w.heap.size, 1, none⟩ (.int .i64 A.f1)).setCell ⟨w.heap.size, 2, none⟩ (.int .i64 A.f2)) := by
      iterate 3 (refine Below.setCell ?_ (by dsimp only; omega) _)
      exact hB5
    have hbF := (hbuf5.zone hZF (Or.inr (by omega))).more (hi' := (((w5.setCell ⟨w.heap.size, 0, none⟩ (.int .i64 A.f0)).setCell ⟨w.heap.size, 1, none⟩ (.int .i64 A.f1)).setCell ⟨w.heap.size, 2, none⟩ (.int .i64 A.f2)).heap.size) (by simp only [size_set]; have := hs5; rw [show (World.drew (w3.alloc (.cells #[.int .i64 A.f0, .int .i64 A.f1, .int .i64 A.f2] 26))).heap.size = w3.heap.size + 1 from gsize_alloc _ _] at this; omega)
    obtain ⟨g0, g1, g2⟩ := tF.cells
    go_wp2
    refine bodyPost_ret (v := .tuple #[.slice L m cl, (Value.agg #[Value.int IntKind.i64 (A.f0), Value.int IntKind.i64 (A.f1), Value.int IntKind.i64 (A.f2)]), .int .i64 (t : Int)]) (by simp [results, Try.results10, go_sem, g0, g1, g2]) rfl ?_
    have hm := HM.out
    exact ⟨_, l, A, t, w1.heap.size, rfl, by omega, by simp only [size_set]; have := hs5; rw [show (World.drew (w3.alloc (.cells #[.int .i64 A.f0, .int .i64 A.f1, .int .i64 A.f2] 26))).heap.size = w3.heap.size + 1 from gsize_alloc _ _] at this; omega, by rw [hm]; exact hbF, by omega, HS.out, hA, ht, hBF⟩

theorem bufA_only {T : TypeId} {base hi k n p : Nat} {w w' : World} {v : Value} {f : Nat → Nat → Dat} (h : BufA p T base hi k w v n f) (ho : Only p w w') : BufA p T base hi k w' v n f :=
  h.keep fun t ht _ _ hp => ho.block t ht hp
theorem bufA_more {T : TypeId} {base hi hi' k n p : Nat} {w : World} {v : Value} {f : Nat → Nat → Dat} (h : BufA p T base hi k w v n f) (h2 : hi ≤ hi') : BufA p T base hi' k w v n f := by
  obtain ⟨xs, G, h, hg, hv⟩ := h
  exact ⟨xs, G, ⟨h.row, fun b hb => Nat.lt_of_lt_of_le (h.lt b hb) h2, h.own, fun i x t a b c => ⟨⟨(h.bnd i x t a b c).1.1, Nat.lt_of_lt_of_le (h.bnd i x t a b c).1.2 h2⟩, (h.bnd i x t a b c).2⟩, h.dis⟩, hg, hv⟩
theorem cur_at {T B p : Nat} {w w' : World} (h : Cur T B p w) (hp : w'.heap[p]? = w.heap[p]?) (hk : ∀ i, i < B → i < w.heap.size → w'.heap[i]? = w.heap[i]?) : Cur T B p w' := by
  obtain ⟨hBp, a, n, c, i, hh, h0, hi, hby⟩ := h
  refine ⟨hBp, a, n, c, i, hh, hp.trans h0, hi, hby.1, fun j hj => ?_⟩
  obtain ⟨b, off, x, ha, hB, hx, hc⟩ := hby.2 j hj
  exact ⟨b, off, x, ha, hB, hx, by rw [Draw.cell_of_heap (hk b hB (Draw.cell_lt hc))]; exact hc⟩
theorem bufA_apart {T T' : TypeId} {base hi k n p b : Nat} {w : World} {v : Value} {f : Nat → Nat → Dat} {x y z : Value} (h : BufA p T base hi k w v n f) (q : Trio T' b x y z w) (hT : T' ≠ T) : v.ownBlock ≠ some b := fun e => by
  obtain ⟨xs, G, h, _⟩ := h
  rcases h.row.2 with ⟨rfl, _⟩ | ⟨g, cap, cur, rfl, _, hg, _⟩
  · simp [Value.ownBlock] at e
  · simp [Value.ownBlock] at e
    subst e
    unfold Trio at q
    rw [hg] at q
    injection q with q
    injection q with _ e _
    exact hT e.symm

set_option maxHeartbeats 600000 in
set_option maxRecDepth 100000 in
theorem draw_follow (B : Nat) (a : Option Addr) (n c : Nat) (w : World) (hb : Bytes B w a n) (hB : B ≤ w.heap.size) :
    Calls Try.prog 15 #[.slice a n c] w (Asked 11 w) := by
  obtain ⟨i0, hi0, hz0, hz1, hz2⟩ := info_parts infoVersion
  have t0 := Trio.new 26 (.int .i64 0) (.int .i64 0) (.int .i64 0) w
  have hb0 : Below w.heap.size w (w.alloc (.cells #[.int .i64 0, .int .i64 0, .int .i64 0] 26)) := (Below.refl _ _).alloc (Nat.le_refl _) _
  have hb' := hb.below hb0
  go_enter Try.func15, Try.ntmps15
  go_wp2_with fail
  go_at_call 10
  refine (draw_answer B a n c _ hb' (by simp; omega)).mono ?_
  rintro e w1 ⟨v, l, A, t, base, rfl, hbase, hbX, hbuf, hlen, hsm, hA, ht, hb1⟩
  have t1 := t0.below hb1
  have hB1 := hb0.trans (hb1.mono hb0.size)
  have hs1 := hb1.size
  rw [gsize_alloc] at hbase hs1
  obtain ⟨L, cl, rfl, _, _⟩ := hbuf.shape
  obtain ⟨m, hm⟩ : ∃ m, l.length = m := ⟨_, rfl⟩
  rw [hm] at hbuf hlen ⊢
  have HM := Lib.hid hm
  have HS := Lib.hid hsm
  have t1 := t1.alloc (.cells #[.int .i64 A.f0, .int .i64 A.f1, .int .i64 A.f2] 26)
  have q1 := Trio.new 26 (.int .i64 A.f0) (.int .i64 A.f1) (.int .i64 A.f2) w1
  have hbw : Below w1.heap.size w1 (w1.alloc (.cells #[.int .i64 A.f0, .int .i64 A.f1, .int .i64 A.f2] 26)) := (Below.refl _ _).alloc (Nat.le_refl _) _
  have hbuf1 := hbuf.below hbw
  have hB2 := hB1.trans (hbw.mono hB1.size)
  have hb2 := (hb.below hB1).below hbw
  clear hb hb' hb0 hb1 t0 hbuf hm hsm hB1
  obtain ⟨W2, hW2⟩ : ∃ W2, w1.alloc (.cells #[.int .i64 A.f0, .int .i64 A.f1, .int .i64 A.f2] 26) = W2 := ⟨_, rfl⟩
  have hs2 : W2.heap.size = w1.heap.size + 1 := by rw [← hW2, gsize_alloc]
  rw [hW2] at t1 q1 hbuf1 hB2 hb2
  have HW := Lib.hid hW2
  obtain ⟨X, hX⟩ : ∃ X, w1.heap.size = X := ⟨_, rfl⟩
  rw [hX] at q1 hbuf1 hs1 hs2 hbX
  have HX := Lib.hid hX
  obtain ⟨p, hp⟩ : ∃ p, W2.heap.size = p := ⟨_, rfl⟩
  have hBp : B ≤ W2.heap.size := by omega
  have hN := new_any B a n c W2 hb2 hBp
  rw [hp] at hN hs2
  replace hs2 : X < p := by omega
  have HP := Lib.hid hp
  clear hW2 hp hbw hb2 hBp HX
  go_wp2_with fail
  rw [HW.out]
  go_at_call 37
  refine hN.mono ?_
  rintro e w3 ⟨rfl, hc3, hb3⟩
  have hb3' := hb3
  rw [← HP.out] at hb3'
  have t3 := t1.below hb3'
  have q3 := q1.below hb3'
  have hbuf3 := BufA.of_buf (p := p) (hbuf1.below hb3') (Or.inl (by omega))
  have hB3 := hB2.trans (hb3'.mono hB2.size)
  have hp3 := hc3.lt
  clear t1 q1 hbuf1 hB2 hN hb3 hb3'
  go_wp2_with fail
  go_at_call 40
  refine (below_any B p _ _ hc3 (by omega) (by omega)).mono ?_
  rintro e w4 ⟨⟨x, hx, rfl⟩, hc4, ho4⟩
  have hx4 : x < 4 := hx
  have t4 := trio_only t3 ho4 (by omega)
  have q4 := trio_only q3 ho4 (by omega)
  have hbuf4 := bufA_only hbuf3 ho4
  have hB4 := hB3.trans (ho4.below (B := w.heap.size) (by omega) hB3.size)
  have hp4 := hc4.lt
  clear t3 q3 hbuf3 hB3 hc3 ho4 hx hp3
  go_wp2_with fail
  go_loopw [5, 9] (fun v i wr => ∃ (j k : Nat) (l' : List TVersion) (hi : Nat), j ≤ x ∧ i = .int .i64 ((x - j : Nat) : Int) ∧ k ≤ 8 + j ∧ BufA p 70 base hi 9 wr v k (vers l') ∧ hi ≤ wr.heap.size ∧ Hid (l'.length = k) ∧ Hid (∀ P ∈ l', SmallV P) ∧ Cur 91 B p wr ∧ Trio 26 w.heap.size (.int .i64 0) (.int .i64 0) (.int .i64 0) wr ∧ Trio 26 X (.int .i64 A.f0) (.int .i64 A.f1) (.int .i64 A.f2) wr ∧ Below w.heap.size w wr) (fun _ i _ => (intOf i).toNat)
  case atStart => exact ⟨0, m, l, X, Nat.zero_le _, rfl, by omega, hbuf4, by omega, HM, HS, hc4, t4, q4, hB4⟩
  case round =>
    obtain ⟨j, k, l', hi, hj, rfl, hk, hbf, hhi, HL, hsm, hcr, tr, qr, hBr⟩ := hrel
    clear hbuf4 hc4 t4 q4 hB4
    have hpr := hcr.lt
    have hBs := hBr.size
    by_cases hlt : j < x
    · have hd : decide (((x - j : Nat) : Int) > 0) = true := by simp; omega
      have hd' : decide (0 < ((x - j : Nat) : Int)) = true := by simp; omega
      go_wp2_with fail
      go_at_call 47
      refine (draw4 B p _ hcr).mono ?_
      rintro e w5 ⟨⟨h, q, r, hh, hq, hr, rfl⟩, hc5, ho5⟩
      have hs5 := ho5.size
      go_wp2_with fail
      go_at_call 47
      refine (draw4 B p _ hc5).mono ?_
      rintro e w6 ⟨⟨h', q', r', hh', hq', hr', rfl⟩, hc6, ho6⟩
      have hs6 := ho6.size
      obtain ⟨V, hV⟩ : ∃ V : TVersion, (⟨⟨h, q, r⟩, 0, ⟨3, [], ⟨h', q', r'⟩⟩⟩ : TVersion) = V := ⟨_, rfl⟩
      have hF : Fresh wr.heap.size (w6.alloc (.cells (verCells V none 0).toArray 70)).heap.size 9 (fun x t => x = 5 ∧ (wr.heap.size ≤ t ∧ t < (w6.alloc (.cells (verCells V none 0).toArray 70)).heap.size)) V.c (verCells V none 0) (w6.alloc (.cells (verCells V none 0).toArray 70)) := by
        subst hV
        exact fresh_ver (Mem.Own.nil _ _ _ _ _) (Nat.le_refl _) (Nat.zero_le _) ⟨wf9 hh, wf9 hq, wf9 hr⟩ (by show (Lit.int .i64 0).wf = true; decide) (by show (Lit.int .i64 3).wf = true; decide) ⟨wf9 hh', wf9 hq', wf9 hr'⟩
      have hSV : SmallV V := by subst hV; exact ⟨⟨wf9 hh, wf9 hq, wf9 hr⟩, by simp, by simp, by simp⟩
      have hb6 : Below w6.heap.size w6 (w6.alloc (.cells (verCells V none 0).toArray 70)) := (Below.refl w6.heap.size w6).alloc (Nat.le_refl _) _
      have hbf6 := (bufA_only (bufA_only hbf ho5) ho6).below hb6
      have qB := Blk.new 70 (verCells V none 0) w6
      have hc7 := hc6.below hb6
      have t7 := (trio_only (trio_only tr ho5 (by omega)) ho6 (by omega)).below hb6
      have q7 := (trio_only (trio_only qr ho5 (by omega)) ho6 (by omega)).below hb6
      have hB6 := ((hBr.trans (ho5.below (B := w.heap.size) (by omega) hBr.size)).trans (ho6.below (B := w.heap.size) (by omega) (by omega))).trans (hb6.mono (by omega))
      have hone := ver_one V none 0
      have hSV := Lib.hid hSV
      have hs7 := hb6.size
      obtain ⟨W5, hW5⟩ : ∃ W5, w6.alloc (.cells (verCells V none 0).toArray 70) = W5 := ⟨_, rfl⟩
      obtain ⟨us, hus⟩ : ∃ us, verCells V none 0 = us := ⟨_, rfl⟩
      rw [hW5] at hF hbf6 qB hc7 t7 q7 hB6 hs7
      rw [hus] at hF qB hone
      have hW5' : w6.alloc (.cells #[.int .i64 h, .int .i64 q, .int .i64 r, .int .i64 0, .int .i64 3, .slice none 0 0, .int .i64 h', .int .i64 q', .int .i64 r'] 70) = W5 := by rw [← hW5, ← hV]; rfl
      have HW5 := Lib.hid hW5'
      have hbfM := bufA_more (hi' := wr.heap.size) hbf6 hhi
      have hav := bufA_apart hbf6 q7 (by decide)
      clear hW5 hW5' hus hV ho5 ho6 hc5 hc6 hb6 tr qr hBr hbf hcr
      go_wp2_with (at_builtin; rw [HW5.out]; refine wpList_append_elA rfl _ _ 24 rfl i0 _ 88 Try.underlying24 hi0 hz0 hz1 hz2 rfl (by omega) (by omega) hbfM ?c1 ?c4 ?c5 ?c2 hF (fun j u hu => qB.at hu) hone ?c3 rfl rfl ?_; (case c1 => omega); (case c4 => intro z _ hg; have h9 := hg.2.1; omega); (case c5 => omega); (case c2 => omega); (case c3 => omega); intro v' w' hb' hbl' hk' hkp)
      go_roundw
      case rel =>
        have hlen := HL.out
        have hX5 := hk' X q7.lt hav
        have hR5 := hbl'.block w.heap.size (by omega)
        refine ⟨j + 1, k + 1, l' ++ [V], w'.heap.size, by omega, by go_num, by omega, hb'.congr (snoc_ver hlen), Nat.le_refl _, Lib.hid (by rw [List.length_append, hlen]; rfl), Lib.hid (small_snoc hsm.out hSV.out), ?_, hR5.trans t7, hX5.trans q7, hB6.trans (hbl'.mono (by omega))⟩
        exact cur_at hc7 hkp fun i h1 h2 => hbl'.block i (by omega)
      case measure => simp [intOf]; omega
    · have HE := Lib.hid (show x - j = 0 by omega)
      have hd : decide (((x - j : Nat) : Int) > 0) = false := by simp; omega
      have hd' : decide (0 < ((x - j : Nat) : Int)) = false := by simp; omega
      obtain ⟨v0, v1, v2⟩ := tr.cells
      obtain ⟨x0, x1, x2⟩ := tr.frozen
      obtain ⟨y0, y1, y2⟩ := qr.cells
      go_wp2_with fail
      have tF := (((tr.set0 (.int .i64 A.f0)).set1 (.int .i64 A.f1)).set2 (.int .i64 A.f2)).drew
      have hZF : Zone 0 (w.heap.size + 1) wr (((wr.setCell ⟨w.heap.size, 0, none⟩ (.int .i64 A.f0)).setCell ⟨w.heap.size, 1, none⟩ (.int .i64 A.f1)).setCell ⟨w.heap.size, 2, none⟩ (.int .i64 A.f2)) := by
        iterate 3 (refine Zone.setCell ?_ ⟨Nat.zero_le _, by omega⟩ _)
        exact Zone.refl _ _ _
      have hBF : Below w.heap.size w (((wr.setCell ⟨w.heap.size, 0, none⟩ (.int .i64 A.f0)).setCell ⟨w.heap.size, 1, none⟩ (.int .i64 A.f1)).setCell ⟨w.heap.size, 2, none⟩ (.int .i64 A.f2)) := by
        iterate 3 (refine Below.setCell ?_ (by dsimp only; omega) _)
        exact hBr
      have hBF := hBF.drew
      have hbF := ((hbf.buf.zone hZF (Or.inr (by omega))).more (hi' := (((wr.setCell ⟨w.heap.size, 0, none⟩ (.int .i64 A.f0)).setCell ⟨w.heap.size, 1, none⟩ (.int .i64 A.f1)).setCell ⟨w.heap.size, 2, none⟩ (.int .i64 A.f2)).heap.size) (by simp only [size_set]; omega)).drewN 1
      have hsF : base ≤ (((wr.setCell ⟨w.heap.size, 0, none⟩ (.int .i64 A.f0)).setCell ⟨w.heap.size, 1, none⟩ (.int .i64 A.f1)).setCell ⟨w.heap.size, 2, none⟩ (.int .i64 A.f2)).drew.heap.size := by rw [show (((wr.setCell ⟨w.heap.size, 0, none⟩ (.int .i64 A.f0)).setCell ⟨w.heap.size, 1, none⟩ (.int .i64 A.f1)).setCell ⟨w.heap.size, 2, none⟩ (.int .i64 A.f2)).drew.heap.size = (((wr.setCell ⟨w.heap.size, 0, none⟩ (.int .i64 A.f0)).setCell ⟨w.heap.size, 1, none⟩ (.int .i64 A.f1)).setCell ⟨w.heap.size, 2, none⟩ (.int .i64 A.f2)).heap.size from rfl]; simp only [size_set]; omega
      obtain ⟨L', cl', rfl, _, _⟩ := hbF.shape
      obtain ⟨g0, g1, g2⟩ := tF.cells
      clear hbf hZF
      go_region
      all_goals
        go_wp2
        refine bodyPost_ret (v := .tuple #[.slice L' k cl', (Value.agg #[Value.int IntKind.i64 (A.f0), Value.int IntKind.i64 (A.f1), Value.int IntKind.i64 (A.f2)]), .int .i64 (t : Int)]) (by simp [results, Try.results15, go_sem, g0, g1, g2]) rfl ?_
        have hm := HL.out
        exact ⟨_, l', A, t, base, rfl, by omega, hsF, by rw [hm]; exact hbF, by omega, hsm.out, hA, ht, hBF⟩
end Go.Proofs.Ytldpgkbemgpacaa.Draw
