/-
  The draw of an address that is asked of a site.
  Conditions: the bytes lie below the cursor's block, the versions behind it.
-/
import Derived.Test.YtagnhfalmefbhaaDraws9
namespace Go.Proofs.Ytagnhfalmefbhaa.Draw
open Go Go.RowKit Go.Proofs.Ytagnhfalmefbhaa.Mem Go.Proofs.Ytagnhfalmefbhaa.Gen Go.Proofs.Ytagnhfalmefbhaa.Adr Go.Proofs.Ytagnhfalmefbhaa.Res Go.Proofs.Ytagnhfalmefbhaa.Sites

/-- An address by value. -/
def IsA (e : Ending) : Prop := ∃ A : TAddress, WfA A ∧ e = .returned (.agg #[.int .i64 A.f0, .int .i64 A.f1, .int .i64 A.f2])
theorem lies_only {lo hi p : Nat} {w w' : World} {d : Dat} {v : Value} (h : Lies lo hi w d v) (ho : Only p w w') (hp : p < lo) : Lies lo hi w' d v := h.keep fun i hi h0 _ => ho.block i hi (by omega)

set_option maxHeartbeats 2000000 in
set_option maxRecDepth 100000 in
theorem ask9 (B p lo hi : Nat) (w : World) (hc : Cur 97 B p w) (hp : p < lo) (L : Option Addr) (c n : Nat) (l : List TVersion) (hL : Lies lo hi w (dVersion l) (.slice L n c)) (hn : n ≤ 1048576) :
    Calls Try.prog 67 #[.pointer (some ⟨p, 0, none⟩), .slice L n c] w fun e w' => IsA e ∧ Cur 97 B p w' ∧ Only p w w' := by
  have hpl := hc.lt
  have hBp := hc.1
  have tA := Trio.new 29 (.int .i64 0) (.int .i64 0) (.int .i64 0) w
  have hc0 : Cur 97 B p (w.alloc (.cells #[.int .i64 0, .int .i64 0, .int .i64 0] 29)) := hc.below ((Below.refl _ _).alloc (Nat.le_refl _) _)
  have ho0 := (Only.refl p w).alloc (.cells #[.int .i64 0, .int .i64 0, .int .i64 0] 29)
  have hL0 := hL.below ((Below.refl w.heap.size w).alloc (Nat.le_refl _) (.cells #[.int .i64 0, .int .i64 0, .int .i64 0] 29))
  go_enter Try.func67, Try.ntmps67
  by_cases h0 : n = 0
  · subst h0
    go_wp2_with fail
    go_at_call 92
    refine (draw4 B p _ hc0).mono ?_
    rintro e w1 ⟨⟨h, q, r, hh, hq, hr, rfl⟩, hc1, ho1⟩
    have tF := trio_only tA ho1 (by omega)
    have hO := ho0.trans ho1
    obtain ⟨a0, a1, a2⟩ := tF.cells
    obtain ⟨f0, f1, f2⟩ := tF.frozen
    clear tA hc0 ho0 ho1 hc
    go_wp2
    have g0 := (tF.set0 (.int .i64 h)).cells.1
    have g1 := ((tF.set0 (.int .i64 h)).set1 (.int .i64 q)).cells.2.1
    have g2 := (((tF.set0 (.int .i64 h)).set1 (.int .i64 q)).set2 (.int .i64 r)).cells.2.2
    refine bodyPost_ret (v := (Value.agg #[Value.int IntKind.i64 (h), Value.int IntKind.i64 (q), Value.int IntKind.i64 (r)])) (by simp [results, Try.results67, go_sem, g0, g1, g2]) rfl ⟨⟨⟨h, q, r⟩, ⟨wf9 hh, wf9 hq, wf9 hr⟩, rfl⟩, ?_, ((hO.setNew (Nat.le_refl _) _).setNew (Nat.le_refl _) _).setNew (Nat.le_refl _) _⟩
    exact ((hc1.only_new (by simp; omega) (by simp; omega) _).only_new (by simp; omega) (by simp; omega) _).only_new (by simp; omega) (by simp; omega) _
  · have hd : decide ((n : Int) > 0) = true := by simp; omega
    have hd' : decide (0 < (n : Int)) = true := by simp; omega
    go_wp2_with fail
    go_at_call 91
    refine (once_any B p _ _ hc0 (by omega) (by omega)).mono ?_
    rintro e w1 ⟨⟨b, rfl⟩, hc1, ho1⟩
    have t1 := trio_only tA ho1 (by omega)
    have hO1 := ho0.trans ho1
    have hL1 := lies_only hL0 ho1 hp
    clear tA hc0 ho0 ho1 hc hL0
    cases b
    · go_wp2_with fail
      go_at_call 92
      refine (draw4 B p _ hc1).mono ?_
      rintro e w2 ⟨⟨h, q, r, hh, hq, hr, rfl⟩, hc2, ho2⟩
      have tF := trio_only t1 ho2 (by omega)
      have hO := hO1.trans ho2
      obtain ⟨a0, a1, a2⟩ := tF.cells
      obtain ⟨f0, f1, f2⟩ := tF.frozen
      clear t1 hc1 hO1 ho2
      go_wp2
      have g0 := (tF.set0 (.int .i64 h)).cells.1
      have g1 := ((tF.set0 (.int .i64 h)).set1 (.int .i64 q)).cells.2.1
      have g2 := (((tF.set0 (.int .i64 h)).set1 (.int .i64 q)).set2 (.int .i64 r)).cells.2.2
      refine bodyPost_ret (v := (Value.agg #[Value.int IntKind.i64 (h), Value.int IntKind.i64 (q), Value.int IntKind.i64 (r)])) (by simp [results, Try.results67, go_sem, g0, g1, g2]) rfl ⟨⟨⟨h, q, r⟩, ⟨wf9 hh, wf9 hq, wf9 hr⟩, rfl⟩, ?_, ((hO.setNew (Nat.le_refl _) _).setNew (Nat.le_refl _) _).setNew (Nat.le_refl _) _⟩
      exact ((hc2.only_new (by simp; omega) (by simp; omega) _).only_new (by simp; omega) (by simp; omega) _).only_new (by simp; omega) (by simp; omega) _
    · go_wp2_with fail
      go_at_call 65
      refine (below_any B p n _ hc1 (by omega) (by omega)).mono ?_
      rintro e w2 ⟨⟨y, hy, rfl⟩, hc2, ho2⟩
      have hy' : y < n := by omega
      have tF := trio_only t1 ho2 (by omega)
      have hO := hO1.trans ho2
      have hL2 := lies_only hL1 ho2 hp
      obtain ⟨b, off, A5, c5, rfl, hb1, hb2, hcv, _, hw0, hw1, hw2, _⟩ := at_Version hL2 hy'
      obtain ⟨d0, d1, d2, _⟩ := hcv.all
      obtain ⟨A, hA⟩ : ∃ A, (l.getD y nVersion).f0 = A := ⟨_, rfl⟩
      rw [hA] at d0 d1 d2 hw0 hw1 hw2
      obtain ⟨a0, a1, a2⟩ := tF.cells
      obtain ⟨f0, f1, f2⟩ := tF.frozen
      clear t1 hc1 hO1 ho2 hL1 hL2 hcv hL hA hy
      go_wp2
      have g0 := (tF.set0 (.int .i64 A.f0)).cells.1
      have g1 := ((tF.set0 (.int .i64 A.f0)).set1 (.int .i64 A.f1)).cells.2.1
      have g2 := (((tF.set0 (.int .i64 A.f0)).set1 (.int .i64 A.f1)).set2 (.int .i64 A.f2)).cells.2.2
      refine bodyPost_ret (v := (Value.agg #[Value.int IntKind.i64 (A.f0), Value.int IntKind.i64 (A.f1), Value.int IntKind.i64 (A.f2)])) (by simp [results, Try.results67, go_sem, g0, g1, g2]) rfl ⟨⟨A, ⟨hw0, hw1, hw2⟩, rfl⟩, ?_, ((hO.setNew (Nat.le_refl _) _).setNew (Nat.le_refl _) _).setNew (Nat.le_refl _) _⟩
      exact ((hc2.only_new (by simp; omega) (by simp; omega) _).only_new (by simp; omega) (by simp; omega) _).only_new (by simp; omega) (by simp; omega) _
end Go.Proofs.Ytagnhfalmefbhaa.Draw
