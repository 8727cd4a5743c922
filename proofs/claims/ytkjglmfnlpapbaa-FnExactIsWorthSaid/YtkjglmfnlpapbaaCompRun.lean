/-
  Two cursors that run toward each other over two bodies: the whole run of the program's comparison.
  Conditions: the bodies lie in memory, apart from the comparison; at most 100 numbers each.
-/
import Derived.Test.YtkjglmfnlpapbaaComp
import Derived.Handy
namespace Go.Proofs.Ytkjglmfnlpapbaa.Pieces
open Go Go.RowKit Go.Proofs.Ytkjglmfnlpapbaa.Mem Go.Proofs.Ytkjglmfnlpapbaa.Adr Go.Proofs.Ytkjglmfnlpapbaa.Res Go.Proofs.Ytkjglmfnlpapbaa.MinMax

set_option maxHeartbeats 4000000 in
set_option maxRecDepth 100000 in
theorem run_impl (lo hi lo2 hi2 : Nat) (b : Nat) (A : Option Addr) (n c : Nat) (B : Option Addr) (m d : Nat) (xs ys : List Int) (w : World) (q : Comp b A n c B m d 0 0 w) (hx : Row .i64 lo hi w A n xs) (hhx : hi ≤ b) (hy : Row .i64 lo2 hi2 w B m ys) (hhy : hi2 ≤ b) (hn : n ≤ 100) (hm : m ≤ 100) :
    Calls Try.prog 31 #[.pointer (some ⟨b, 0, none⟩)] w fun en w' => en = .returned (.tuple #[]) ∧ Zone b (b + 1) w w' ∧ Comp b A n c B m d (fore xs ys) (aft xs ys (fore xs ys)) w' := by
  have HX := Lib.hid hx.len
  have HY := Lib.hid hy.len
  have hbl := q.lt
  obtain ⟨W, hW⟩ : ∃ W, W = (w.iter ⟨#[62, 60]⟩ 0).iterAt w.heap.size ⟨#[62, 60]⟩ 1 := ⟨_, rfl⟩
  have hz0 : Zone b (b + 1) w (w.iter ⟨#[62, 60]⟩ 0) := Zone.of_below ((Below.refl _ _).alloc (Nat.le_refl _) _)
  have hzW : Zone b (b + 1) w W := by rw [hW]; exact zone_iterAt hz0 (Nat.le_refl _)
  have hqW : Comp b A n c B m d 0 0 W := by
    rw [hW]
    exact (Lib.iterAt_other _ _ _ _ _ (by omega)).trans (Quad.alloc q _)
  have hk0 := World.iter_heap w ⟨#[62, 60]⟩ 0
  have hkW : W.heap[w.heap.size]? = some (.stringIter ⟨#[62, 60]⟩ 1) := by rw [hW]; exact Lib.iterAt_heap _ _ _ _ _ hk0
  have hxW := hx.zone hzW (Or.inl hhx)
  have hyW := hy.zone hzW (Or.inl hhy)
  have hn0 : ∀ ty, (Instr.next (.pointer (some ⟨w.heap.size, 0, none⟩)) true ty).run Try.prog (w.iter ⟨#[62, 60]⟩ 0) = .ok (.tuple #[.bool true, .int .i64 0, .int .i32 62]) W := fun ty => by
    rw [hW]; exact Lib.run_next_ascii_at _ _ _ 0 ty hk0 (by decide) (by decide)
  obtain ⟨k, hk⟩ : ∃ k, w.heap.size = k := ⟨_, rfl⟩
  have hbk : b < k := by omega
  have hwk : w.heap.size ≤ k := by omega
  simp only [hk] at hkW hn0
  clear hW hz0 hk0
  go_enter Try.func31, Try.ntmps31
  go_wp2_with fail
  refine wp_loop_rounds 3 ?_
  rw [rounds_succ]
  go_wp2_with fail
  go_loopw [] (fun wr => ∃ j : Nat, j ≤ n ∧ j ≤ m ∧ Comp b A n c B m d j 0 wr ∧ Same xs ys j ∧ Zone b (b + 1) W wr) (fun wr => n - passed wr b 2)
  case atStart => exact ⟨0, Nat.zero_le _, Nat.zero_le _, hqW, Same.zero _ _, Zone.refl _ _ _⟩
  case round =>
  obtain ⟨j, hj, hjm, hq, hsm, hz⟩ := hrel
  have hxr := hxW.zone hz (Or.inl hhx)
  have hyr := hyW.zone hz (Or.inl hhy)
  have hp := passed_of hq.cells.2.2.1
  by_cases h : j < n ∧ j < m ∧ xs.getD j 0 = ys.getD j 0
  · obtain ⟨h1, h2, h3⟩ := h
    have hst := fore_yes lo hi lo2 hi2 b A n c B m d j 0 xs ys _ hq hxr hyr hn hm (by omega) (by omega) h3
    have hnx := hsm.next h3
    clear h3 hsm
    go_wp2_with fail
    go_at_call 41
    refine hst.mono ?_
    rintro en w1 ⟨rfl, hz1, hq1⟩
    have hp1 := passed_of hq1.cells.2.2.1
    have hzz := hz.trans hz1
    go_wp2
    go_roundw
    case rel => exact ⟨j + 1, h1, h2, hq1, hnx, hzz⟩
    case measure => omega
  have hst := fore_stop lo hi lo2 hi2 b A n c B m d j 0 xs ys _ hq hxr hyr hn hm (by omega) (by omega) (fun hh => h ⟨hh.1, hh.2.1, hh.2.2⟩)
  have hfo : fore xs ys = j := hsm.stop (by rw [HX.out]; omega) (by rw [HY.out]; omega) (fun a1 a2 he => h ⟨by rw [HX.out] at a1; exact a1, by rw [HY.out] at a2; exact a2, he⟩)
  have HFO := Lib.hid hfo
  clear h hsm hq hxr hyr hp hn0 hqW hfo
  go_wp2_with fail
  go_at_call 41
  refine hst.mono ?_
  rintro en w1 ⟨rfl, hz1, hq1⟩
  have hk1 : w1.heap[k]? = some (.stringIter ⟨#[62, 60]⟩ 1) := ((hz.trans hz1).block k (Array.getElem?_eq_some_iff.1 hkW).1 (Or.inr (by omega))).trans hkW
  have hzw1 := hzW.trans (hz.trans hz1)
  obtain ⟨V, hV⟩ : ∃ V, V = w1.iterAt k ⟨#[62, 60]⟩ 2 := ⟨_, rfl⟩
  have hn1 : ∀ ty, (Instr.next (.pointer (some ⟨k, 0, none⟩)) true ty).run Try.prog w1 = .ok (.tuple #[.bool true, .int .i64 1, .int .i32 60]) V := fun ty => by
    rw [hV]; exact Lib.run_next_ascii_at _ _ _ 1 ty hk1 (by decide) (by decide)
  have hzV : Zone b (b + 1) w V := by rw [hV]; exact zone_iterAt hzw1 hwk
  have hqV : Comp b A n c B m d j 0 V := by
    rw [hV]
    exact (Lib.iterAt_other _ _ _ _ _ (by omega)).trans hq1
  have hkV : V.heap[k]? = some (.stringIter ⟨#[62, 60]⟩ 2) := by rw [hV]; exact Lib.iterAt_heap _ _ _ _ _ hk1
  clear hV hk1 hzw1 hst hz hz1 hq1 hkW hzW
  have hxV := hx.zone hzV (Or.inl hhx)
  have hyV := hy.zone hzV (Or.inl hhy)
  go_wp2
  rw [rounds_succ]
  go_wp2_with fail
  go_loopw [] (fun wr => ∃ e : Nat, j + e ≤ n ∧ j + e ≤ m ∧ Comp b A n c B m d j e wr ∧ SameE xs ys e ∧ Zone b (b + 1) V wr) (fun wr => n - passed wr b 3)
  case atStart => exact ⟨0, by omega, by omega, hqV, SameE.zero _ _, Zone.refl _ _ _⟩
  case round =>
  obtain ⟨e, he, hem, hq, hsm, hz⟩ := hrel
  have hxr := hxV.zone hz (Or.inl hhx)
  have hyr := hyV.zone hz (Or.inl hhy)
  have hp := passed_of hq.cells.2.2.2
  have hgx : xs.getD (xs.length - 1 - e) 0 = xs.getD (n - 1 - e) 0 := by rw [HX.out]
  have hgy : ys.getD (ys.length - 1 - e) 0 = ys.getD (m - 1 - e) 0 := by rw [HY.out]
  by_cases h : j + e < n ∧ j + e < m ∧ xs.getD (n - 1 - e) 0 = ys.getD (m - 1 - e) 0
  · obtain ⟨h1, h2, h3⟩ := h
    have hst := aft_yes lo hi lo2 hi2 b A n c B m d j e xs ys _ hq hxr hyr hn hm h1 h2 h3
    have hnx := hsm.next (by rw [hgx, hgy]; exact h3)
    clear h3 hsm hgx hgy
    go_wp2_with fail
    go_at_call 41
    refine hst.mono ?_
    rintro en w2 ⟨rfl, hz1, hq1⟩
    have hp1 := passed_of hq1.cells.2.2.2
    have hzz := hz.trans hz1
    go_wp2
    go_roundw
    case rel => exact ⟨e + 1, by omega, by omega, hq1, hnx, hzz⟩
    case measure => omega
  have hst := aft_stop lo hi lo2 hi2 b A n c B m d j e xs ys _ hq hxr hyr hn hm (by omega) (by omega) h
  have haf : aft xs ys j = e := hsm.stop (by rw [HX.out]; omega) (by rw [HY.out]; omega) (fun a1 a2 he => h ⟨by rw [HX.out] at a1; exact a1, by rw [HY.out] at a2; exact a2, by rw [← hgx, ← hgy]; exact he⟩)
  have HAF := Lib.hid haf
  clear h hsm hq hxr hyr hp hn1 hqV haf hgx hgy
  go_wp2_with fail
  go_at_call 41
  refine hst.mono ?_
  rintro en w2 ⟨rfl, hz1, hq1⟩
  have hk2 : w2.heap[k]? = some (.stringIter ⟨#[62, 60]⟩ 2) := ((hz.trans hz1).block k (Array.getElem?_eq_some_iff.1 hkV).1 (Or.inr (by omega))).trans hkV
  have hn2 : ∀ ty, (Instr.next (.pointer (some ⟨k, 0, none⟩)) true ty).run Try.prog w2 = .ok (.tuple #[.bool false]) w2 := fun ty => Lib.run_next_end_at _ _ _ 2 ty hk2 (by decide)
  have hzz := hzV.trans (hz.trans hz1)
  clear hst hz hz1 hkV hzV hk2
  go_wp2
  rw [rounds_succ]
  go_wp2
  go_returns
  refine ⟨rfl, hzz, ?_⟩
  rw [HFO.out, HAF.out]
  exact hq1
end Go.Proofs.Ytkjglmfnlpapbaa.Pieces
