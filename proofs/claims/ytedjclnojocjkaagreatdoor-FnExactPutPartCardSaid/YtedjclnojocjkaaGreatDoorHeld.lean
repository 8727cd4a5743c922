/-
  The exact laws' helpers: the test that marks are held, at a resource and at a slice of parts.
  Conditions: the marks lie in memory.
-/
import Derived.Test.YtedjclnojocjkaaGreatDoorPtsMark
namespace Go.Proofs.YtedjclnojocjkaaGreatDoor.Parts
open Go Go.RowKit Go.Proofs.YtedjclnojocjkaaGreatDoor.Mem Go.Proofs.YtedjclnojocjkaaGreatDoor.Adr Go.Proofs.YtedjclnojocjkaaGreatDoor.Res

set_option maxHeartbeats 1600000 in
set_option maxRecDepth 100000 in
theorem held_parts (lo hi k0 : Nat) (w : World) (a : Option Addr) (n c : Nat) (l : List Prt) (h : PRow lo hi w a n (mkAll k0 l)) (hk : k0 + 6 * n + bodies l ≤ 1125899906842624) :
    Calls Tryz.prog 29 #[.slice a n c, .int .i64 k0] w fun e w' => e = .returned (.int .i64 ((k0 + 6 * n + bodies l : Nat) : Int)) ∧ ∃ m, w' = w.drewN m := by
  have hlen : l.length = n := by rw [← mkAll_len k0 l]; exact h.len
  have hnb : n ≤ 1125899906842624 := by omega
  have HM := Lib.hid hk
  have HL := Lib.hid hlen
  have HA := Lib.hid (mkAll_at k0 l)
  clear hk hlen
  go_enter Tryz.func29, Tryz.ntmps29
  go_wp2
  go_loopw [1, 5] (fun k i wr => ∃ j kk m : Nat, j ≤ n ∧ i = .int .i64 j ∧ k = .int .i64 kk ∧ Hid (kk = k0 + 6 * j + bodies (l.take j)) ∧ kk ≤ 1125899906842624 ∧ wr = w.drewN m) (fun _ i _ => n - (intOf i).toNat)
  case atStart => exact ⟨0, k0, 0, Nat.zero_le _, rfl, rfl, by simp [bodies, Hid], by have := HM.out; omega, rfl⟩
  case round =>
    obtain ⟨j, kk, m, hj, rfl, rfl, HK, hkk, rfl⟩ := hrel
    by_cases hlt : j < n
    · obtain ⟨b, off, A, cc, rfl, _, _, q, hla, _⟩ := (h.drewN m).at hlt
      rw [HA.out j (by have := HL.out; omega), ← HK.out] at q hla
      have hbd : bodies (l.take j) + (pt l j).zs.length ≤ bodies l := by
        have h1 := bodies_take l j (by have := HL.out; omega)
        have h2 := bodies_le l (j + 1)
        omega
      have HB := Lib.hid hbd
      have hrow := hla.row
      rw [mk1_len] at hrow
      obtain ⟨zl, hzl⟩ : ∃ zl, (pt l j).zs.length = zl := ⟨_, rfl⟩
      have hzb : zl + kk + 8 ≤ 1125899906842640 := by have h1 := HM.out; have h2 := HK.out; omega
      obtain ⟨c0, c1, c2, c3, c4, c5, c6⟩ := q
      rw [mk1_len] at c2
      simp only [mk1] at c0 c1 c2 c3 c4 c5 c6 hrow
      rw [hzl] at c2 c3 c4 c5 c6 hrow
      have HZ := Lib.hid hzl
      have hM := Nts.held_any lo hi (kk + 2) (w.drewN m) A zl cc hrow (by omega)
      obtain ⟨r, hr⟩ : ∃ r : Int, r = ((kk + 2 + zl : Nat) : Int) := ⟨_, rfl⟩
      rw [← hr, show ((kk + 2 : Nat) : Int) = (kk : Int) + 1 + 1 by omega] at hM
      rw [show ((kk + 1 : Nat) : Int) = (kk : Int) + 1 by omega] at c1
      rw [show ((kk + 2 + zl : Nat) : Int) = r by omega] at c3
      rw [show ((kk + 3 + zl : Nat) : Int) = r + 1 by omega] at c4
      rw [show ((kk + 4 + zl : Nat) : Int) = r + 1 + 1 by omega] at c5
      rw [show ((kk + 5 + zl : Nat) : Int) = r + 1 + 1 + 1 by omega] at c6
      have hd : decide (r < 0) = false := by simp; omega
      have hr0 : 0 ≤ r := by omega
      have hr1 : r ≤ 1125899906842640 := by omega
      have HR := Lib.hid hr
      clear hbd hrow hla hzl hzb hr
      go_wp2_with fail
      go_at_call 68
      refine hM.mono ?_
      rintro e w1 ⟨rfl, m1, rfl⟩
      have d3 : (w.drewN (m + m1)).cell? ⟨b, off + j * 7 + 3, none⟩ = some (.int .i64 r) := c3
      have d4 : (w.drewN (m + m1)).cell? ⟨b, off + j * 7 + 4, none⟩ = some (.int .i64 (r + 1)) := c4
      have d5 : (w.drewN (m + m1)).cell? ⟨b, off + j * 7 + 5, none⟩ = some (.int .i64 (r + 1 + 1)) := c5
      have d6 : (w.drewN (m + m1)).cell? ⟨b, off + j * 7 + 6, none⟩ = some (.int .i64 (r + 1 + 1 + 1)) := c6
      clear hM c0 c1 c2 c3 c4 c5 c6
      go_wp2
      go_roundw
      case rel =>
        refine ⟨j + 1, kk + 6 + zl, m + m1, by omega, by go_num, ?_, ?_, ?_, by first | rfl | (simp [World.drewN_drewN]) ⟩
        · have := HR.out
          rw [show ((kk + 6 + zl : Nat) : Int) = r + 1 + 1 + 1 + 1 by omega]
        · have h1 := HK.out
          have h2 := bodies_take l j (by have := HL.out; omega)
          have h3 := HZ.out
          show _ = _
          omega
        · have h1 := HK.out
          have h2 := HB.out
          have h3 := HM.out
          have h4 := HZ.out
          omega
      case measure => simp [intOf]; omega
    · have hd : decide ((j : Int) < (n : Int)) = false := by simp; omega
      have HE := Lib.hid (show j = n by omega)
      go_wp2
      go_ret
      have h2 := HK.out
      have h3 := HL.out
      rw [HE.out] at h2
      rw [← h3, List.take_length, h3] at h2
      exact ⟨by rw [h2]; rfl, m, rfl⟩
end Go.Proofs.YtedjclnojocjkaaGreatDoor.Parts
