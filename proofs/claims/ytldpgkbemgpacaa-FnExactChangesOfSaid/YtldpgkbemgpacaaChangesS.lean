/-
  Sites that change: the model. When an address changes.
  Conditions: the versions lie in memory, with 2^20 numbers at most.
-/
import Derived.Test.YtldpgkbemgpacaaTickPut
import Derived.Deep.QuietTactic
import Derived.BigQuiet
namespace Go.Proofs.Ytldpgkbemgpacaa.Sites
open Go Go.RowKit Go.Proofs.Ytldpgkbemgpacaa.Mem Go.Proofs.Ytldpgkbemgpacaa.Gen Go.Proofs.Ytldpgkbemgpacaa.Adr Go.Proofs.Ytldpgkbemgpacaa.Res

set_option maxHeartbeats 4000000 in
set_option maxRecDepth 100000 in
theorem changes_spec (lo hi : Nat) (w : World) (L : Option Addr) (c : Nat) (l : List TVersion) (h : Lies lo hi w (dVersion l) (.slice L l.length c)) (hh : hi ≤ w.heap.size) (hm : room (dVersion l) ≤ 1048576) (A : TAddress) :
    Calls Try.prog 28 #[.slice L l.length c, .agg #[.int .i64 A.f0, .int .i64 A.f1, .int .i64 A.f2]] w (Slice .i64 w.heap.size (ticks (past l A)).length (ticks (past l A)) w) := by
  obtain ⟨n, hn⟩ : ∃ n, l.length = n := ⟨_, rfl⟩
  have hnm : n ≤ 1048576 := by have : room (dVersion l) = l.length + _ := rfl; omega
  have hpe : past l A = sel l A n := by unfold past; rw [hn]
  rw [hpe]
  rw [hn] at h ⊢
  have HN := Lib.hid hn
  have htl : ∀ j, j ≤ n → (ticks (sel l A j)).length ≤ 1048576 := fun j hj => Nat.le_trans (ticks_len _) (Nat.le_trans (sel_len _ _ _) (by omega))
  have HTL := Lib.hid htl
  clear hn hpe htl hm
  obtain ⟨D, hD⟩ : ∃ D, D = fun j => ticks (sel l A j) := ⟨_, rfl⟩
  have hD0 : D 0 = [] := by rw [hD]; rfl
  have hDy : ∀ j, j < n → sameA (l.getD j nVersion).f0 A = true → D (j + 1) = put (D j) (l.getD j nVersion).f1 := fun j hj hs => by rw [hD]; show ticks (sel l A (j + 1)) = _; rw [sel_yes (by rw [HN.out]; exact hj) hs, ticks_snoc]
  have hDn : ∀ j, j < n → sameA (l.getD j nVersion).f0 A = false → D (j + 1) = D j := fun j hj hs => by rw [hD]; show ticks (sel l A (j + 1)) = _; rw [sel_no (by rw [HN.out]; exact hj) hs]
  rw [show ticks (sel l A n) = D n by rw [hD]]
  have HY := Lib.hid hDy
  have HNO := Lib.hid hDn
  have HT := Lib.hid (show ∀ j, j ≤ n → (D j).length ≤ 1048576 by rw [hD]; exact HTL.out)
  clear hD hDy hDn HTL
  obtain ⟨O1, hO1⟩ : ∃ O, O = Obj.cells (adrCells A).toArray 26 (0, 0) := ⟨_, rfl⟩
  have hB0 : Below w.heap.size w ((w.alloc O1).alloc (.cells #[] 3)) := by repeat' (first | exact Below.refl _ _ | assumption | refine Below.setCell ?_ ?_ _ | refine Below.alloc ?_ ?_ _ | refine Gen.gbelow_drewN ?_ _ | refine Below.drew ?_ | exact Nat.le_refl _ | omega | (dsimp only; omega) | refine Gen.gle_alloc ?_ | refine Gen.gle_set ?_ | refine Gen.gle_drewN ?_ | refine Gen.gle_drew ?_)
  have qA : Blk 26 w.heap.size (adrCells A) ((w.alloc O1).alloc (.cells #[] 3)) := by rw [hO1]; exact (Blk.new _ _ w).alloc _
  have ho : Mem.Own .i64 w.heap.size ((w.alloc O1).alloc (.cells #[] 3)).heap.size ((w.alloc O1).alloc (.cells #[] 3)) (some ⟨w.heap.size + 1, 0, none⟩) 0 [] := ⟨rfl, fun z hz => absurd hz (by simp), fun h => absurd h (by omega)⟩
  subst hO1
  go_enter Try.func28, Try.ntmps28
  go_wp2
  go_loopw [5, 6] (fun v i wr => ∃ (j : Nat) (a : Option Addr) (d m : Nat), j ≤ n ∧ i = .int .i64 j ∧ v = .slice a m d ∧ m = (D j).length ∧ Mem.Own .i64 w.heap.size wr.heap.size wr a m (D j) ∧ m ≤ d ∧ d ≤ maxLen ∧ Blk 26 w.heap.size (adrCells A) wr ∧ Below w.heap.size w wr) (fun _ i _ => n - (Go.RowKit.intOf i).toNat)
  case atStart => exact ⟨0, some ⟨w.heap.size + 1, 0, none⟩, 0, 0, Nat.zero_le _, rfl, rfl, by rw [hD0]; rfl, by rw [hD0]; exact ho, Nat.le_refl _, Nat.zero_le _, qA, hB0⟩
  case round =>
    obtain ⟨j, a, d, m, hj, rfl, rfl, hmD, ho, hd1, hd2, qA, hbl⟩ := hrel
    by_cases hlt : j < n
    · have hbs := hbl.size
      obtain ⟨b, off, A5, c5, rfl, _, hbh, hc, _, _, _, _, wf3, _⟩ := at_Version (h.under hbl hh) hlt
      have hYj := HY.out j hlt
      have hNj := HNO.out j hlt
      have hTj := HT.out j hj
      obtain ⟨V, hV⟩ : ∃ V, l.getD j nVersion = V := ⟨_, rfl⟩
      rw [hV] at hc hYj hNj wf3
      have hc0 := hc
      obtain ⟨c0, c1, c2, c3, _⟩ := hc
      have a0 : wr.cell? ⟨w.heap.size, 0, none⟩ = some (.int .i64 A.f0) := qA.at rfl
      have a1 : wr.cell? ⟨w.heap.size, 1, none⟩ = some (.int .i64 A.f1) := qA.at rfl
      have a2 : wr.cell? ⟨w.heap.size, 2, none⟩ = some (.int .i64 A.f2) := qA.at rfl
      clear hV
      by_cases same : sameA V.f0 A = true
      · have hY1 := hYj same
        obtain ⟨e0, e1, e2⟩ := sameA_all same
        have hP := fun q => put_spec 0 wr.heap.size (wr.drewN q) a m d (D j) V.f1 ((ho.row.more (Nat.zero_le _) (Nat.le_refl _)).drewN q) (Nat.le_refl _) (by rw [hmD]; exact hTj) hd1 wf3
        simp only [← hY1] at hP
        have HY1 := Lib.hid hY1
        clear hYj hNj hY1 same hmD hTj
        go_upto_region 5 with fail
        go_quiet (fail)
        go_wp2_with fail
        go_at_call 59
        refine (hP _).mono ?_
        rintro e w1 ⟨xa, xc, rfl, x1, x2, x3, hb1⟩
        have qA1 := Blk.below (w := wr.drewN nq) (qA.drewN nq) hb1
        have hb2 := (gbelow_drewN hbl nq).trans (hb1.mono hbs)
        have x1' := x1.more hbs (Nat.le_refl _)
        go_wp2
        go_roundw
        case rel => exact ⟨j + 1, xa, xc, _, by omega, by go_num, rfl, rfl, x1', x2, x3, qA1, hb2⟩
        case measure => simp [Go.RowKit.intOf]; omega
      · have same0 : sameA V.f0 A = false := by simpa using same
        have hN1 := hNj same0
        rcases sameA_cases same0 with e0 | ⟨e0, e1⟩ | ⟨e0, e1, e2⟩
        all_goals
          clear hYj hNj same hTj
          go_upto_region 5 with fail
          go_quiet (fail)
          go_wp2
          go_roundw
          case rel => exact ⟨j + 1, a, d, m, by omega, by go_num, rfl, by rw [hN1]; exact hmD, by rw [hN1]; exact ho.drewN _, hd1, hd2, qA.drewN _, gbelow_drewN hbl _⟩
          case measure => simp [Go.RowKit.intOf]; omega
    · have hd : decide ((j : Int) < (n : Int)) = false := by simp; omega
      obtain rfl : j = n := by omega
      go_wp2
      go_ret
      rw [← hmD]
      exact ⟨a, d, rfl, ho, hd1, hd2, hbl⟩
end Go.Proofs.Ytldpgkbemgpacaa.Sites
