/-
  Whether an address is among those that were asked: the model.
  Conditions: the addresses lie in memory.
-/
import Derived.Test.YtagnhfalmefbhaaSiteMath
import Derived.Deep.QuietTactic
import Derived.BigQuiet
import Derived.Deep.CutBlock
import Derived.Deep.DeepCutAuto
namespace Go.Proofs.Ytagnhfalmefbhaa.Sites
open Go Go.RowKit Go.Proofs.Ytagnhfalmefbhaa.Mem Go.Proofs.Ytagnhfalmefbhaa.Gen Go.Proofs.Ytagnhfalmefbhaa.Adr

set_option maxHeartbeats 1600000 in
set_option maxRecDepth 100000 in
theorem has_spec (lo hi : Nat) (w : World) (L : Option Addr) (c : Nat) (l : List TAddress) (h : Lies lo hi w (dAddress l) (.slice L l.length c)) (hh : hi ≤ w.heap.size) (hm : l.length ≤ 1048576) (A : TAddress) :
    Calls Try.prog 87 #[.slice L l.length c, .agg #[.int .i64 A.f0, .int .i64 A.f1, .int .i64 A.f2]] w fun e w' => e = .returned (.bool (hasA l A)) ∧ Below w.heap.size w w' := by
  have hB0 : Below w.heap.size w (w.alloc (.cells #[.int .i64 A.f0, .int .i64 A.f1, .int .i64 A.f2] 29)) := (Below.refl _ _).alloc (Nat.le_refl _) _
  have q0 := Blk.new 29 [.int .i64 A.f0, .int .i64 A.f1, .int .i64 A.f2] w
  obtain ⟨n, hn⟩ : ∃ n, l.length = n := ⟨_, rfl⟩
  obtain ⟨R, hR⟩ : ∃ R, hasA l A = R := ⟨_, rfl⟩
  rw [hR]
  rw [hn] at h hm ⊢
  have HN := Lib.hid hn
  have HR := Lib.hid hR
  clear hn hR
  go_enter Try.func87, Try.ntmps87
  go_wp2
  go_loopw [5] (fun i wr => ∃ j : Nat, j ≤ n ∧ i = .int .i64 j ∧ NotYet l A j ∧ Blk 29 w.heap.size [.int .i64 A.f0, .int .i64 A.f1, .int .i64 A.f2] wr ∧ Below w.heap.size w wr) (fun i _ => n - (Go.RowKit.intOf i).toNat)
  case atStart => exact ⟨0, Nat.zero_le _, rfl, NotYet.zero _ _, q0, hB0⟩
  case round =>
    obtain ⟨j, hj, rfl, hny, qA, hbl⟩ := hrel
    clear q0 hB0
    by_cases hlt : j < n
    · have hbs := hbl.size
      obtain ⟨b, off, rfl, _, _, hc, _⟩ := at_Address (h.under hbl hh) hlt
      have HNX := Lib.hid (fun h => hny.next h)
      have HYE := Lib.hid (fun h => hasA_yes (l := l) (A := A) (j := j) (by rw [HN.out]; exact hlt) h)
      obtain ⟨V, hV⟩ : ∃ V, l.getD j nAddress = V := ⟨_, rfl⟩
      rw [hV] at hc HNX HYE
      obtain ⟨c0, c1, c2⟩ := hc
      have a0 : wr.cell? ⟨w.heap.size, 0, none⟩ = some (.int .i64 A.f0) := qA.at rfl
      have a1 : wr.cell? ⟨w.heap.size, 1, none⟩ = some (.int .i64 A.f1) := qA.at rfl
      have a2 : wr.cell? ⟨w.heap.size, 2, none⟩ = some (.int .i64 A.f2) := qA.at rfl
      clear hV hny
      by_cases same : sameA V A = true
      · have hy := HYE.out same
        rw [HR.out] at hy
        obtain ⟨e0, e1, e2⟩ := sameA_all same
        go_upto_region 4 with fail
        go_quiet (fail)
        go_wp2
        go_ret
        exact ⟨by first | rfl | (rw [hy]; rfl), gbelow_drewN hbl _⟩
      · have same0 : sameA V A = false := by simpa using same
        have hnx := HNX.out same0
        rcases sameA_cases same0 with e0 | ⟨e0, e1⟩ | ⟨e0, e1, e2⟩
        all_goals
          go_upto_region 4 with fail
          go_quiet (fail)
          go_wp2
          go_roundw
          case rel => exact ⟨j + 1, by omega, by go_num, hnx, qA.drewN _, gbelow_drewN hbl _⟩
          case measure => simp [Go.RowKit.intOf]; omega
    · have hd : decide ((j : Int) < (n : Int)) = false := by simp; omega
      have e1 := hny.end (by rw [HN.out]; omega)
      rw [HR.out] at e1
      go_wp2
      go_ret
      exact ⟨by first | rfl | (rw [e1]; rfl), hbl⟩
end Go.Proofs.Ytagnhfalmefbhaa.Sites
