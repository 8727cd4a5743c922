/-
  The exact laws' helpers at a slice of parts: its size, a copy.
  Conditions: the parts lie in memory.
-/
import Derived.Test.YtedjclnojocjkaaGreatDoorPtsTo
namespace Go.Proofs.YtedjclnojocjkaaGreatDoor.Parts
open Go Go.RowKit Go.Proofs.YtedjclnojocjkaaGreatDoor.Mem Go.Proofs.YtedjclnojocjkaaGreatDoor.Adr Go.Proofs.YtedjclnojocjkaaGreatDoor.Res

set_option maxHeartbeats 1600000 in
set_option maxRecDepth 100000 in
theorem sz_parts (lo hi : Nat) (w : World) (a : Option Addr) (n c : Nat) (l : List Prt) (hr : PRow lo hi w a n l) (hh : hi ≤ w.heap.size) (left : Int) (hn : (n : Int) ≤ 9223372036854775807) (hl : 0 ≤ left) (hl' : left ≤ 1048576) :
    Calls Tryz.prog 20 #[.slice a n c, .int .i64 left] w fun e w' => e = .returned (.int .i64 (if (room l : Int) ≤ left then left - room l else -1)) ∧ Below w.heap.size w w' := by
  have hlen := hr.len
  have hroom := room_eq l
  by_cases h0 : (n : Int) ≤ left
  rotate_left
  · have d : decide (left - (n : Int) < 0) = true := by simp; omega
    have e1 : IntKind.wrap .i64 (left - n) = left - n := by rw [IntKind.wrap_i64]; omega
    rw [if_neg (by omega)]
    clear hroom
    go_enter Tryz.func20, Tryz.ntmps20
    go_wp2
    go_ret
    exact ⟨rfl, by repeat' (first | exact Below.refl _ _ | assumption | refine Below.setCell ?_ ?_ _ | refine Below.alloc ?_ ?_ _ | refine Adr.below_drewN ?_ _ | refine Below.drew ?_ | exact Nat.le_refl _ | omega | (dsimp only; omega) | refine Adr.le_alloc ?_ | refine Adr.le_set ?_ | refine Adr.le_drewN ?_ | refine Adr.le_drew ?_)⟩
  have d : decide (left - (n : Int) < 0) = false := by simp; omega
  have e1 : IntKind.wrap .i64 (left - n) = left - n := by rw [IntKind.wrap_i64]; omega
  obtain ⟨res, hres⟩ : ∃ r : Int, r = if (room l : Int) ≤ left then left - room l else -1 := ⟨_, rfl⟩
  rw [← hres]
  have HR := Lib.hid hres
  have HM := Lib.hid hroom
  have HL := Lib.hid hlen
  clear hres hroom hlen
  go_enter Tryz.func20, Tryz.ntmps20
  go_wp2
  go_loopw [1, 5] (fun x i wr => ∃ (j : Nat) (r : Int), j ≤ n ∧ i = .int .i64 j ∧ x = .int .i64 r ∧ Hid (r = left - n - (bodies (l.take j) : Int)) ∧ 0 ≤ r ∧ r ≤ 1048576 ∧ Below w.heap.size w wr) (fun _ i _ => n - (intOf i).toNat)
  case atStart => exact ⟨0, left - n, Nat.zero_le _, rfl, rfl, by simp [bodies, Hid], by omega, by omega, by repeat' (first | exact Below.refl _ _ | assumption | refine Below.setCell ?_ ?_ _ | refine Below.alloc ?_ ?_ _ | refine Adr.below_drewN ?_ _ | refine Below.drew ?_ | exact Nat.le_refl _ | omega | (dsimp only; omega) | refine Adr.le_alloc ?_ | refine Adr.le_set ?_ | refine Adr.le_drewN ?_ | refine Adr.le_drew ?_)⟩
  case round =>
    obtain ⟨j, r, hj, rfl, rfl, HQ, hr0, hr1, hb⟩ := hrel
    by_cases hlt : j < n
    · obtain ⟨b, off, A, cc, rfl, _, _, hc, hla, _⟩ := (hr.under hb hh).at hlt
      obtain ⟨c0, c1, c2, c3, c4, c5, c6⟩ := hc
      have hS := fun w1 => sz_part (pt l j).d (pt l j).k (pt l j).h (pt l j).p (pt l j).q (pt l j).u A (pt l j).zs.length cc r w1 (by have := hla.le; have := hla.max; unfold maxLen at this; omega) hr0 hr1
      obtain ⟨r2, hr2⟩ : ∃ x : Int, x = if ((pt l j).zs.length : Int) ≤ r then r - ((pt l j).zs.length : Int) else -1 := ⟨_, rfl⟩
      rw [← hr2] at hS
      have HB := Lib.hid (bodies_take l j (by have := HL.out; omega))
      have HK := Lib.hid (bodies_le l (j + 1))
      have hr2' : (r2 = -1 ∧ (r : Int) < (pt l j).zs.length) ∨ (0 ≤ r2 ∧ r2 ≤ r ∧ r2 = r - ((pt l j).zs.length : Int)) := by split at hr2 <;> omega
      have HC := Lib.hid hr2'
      have hw : r2 = -1 ∨ (0 ≤ r2 ∧ r2 ≤ 1048576) := by omega
      clear hr2 hr2' hla
      go_wp2_with fail
      go_at_call 58
      refine (hS _).mono ?_
      rintro e w1 ⟨rfl, hb1⟩
      have hb2 := hb.trans (hb1.mono hb.size)
      rcases hw with rfl | ⟨hw, hw'⟩
      · go_wp2
        go_ret
        refine ⟨?_, hb2⟩
        have h1 := HR.out
        have h2 := HQ.out
        have h3 := HB.out
        have h4 := HK.out
        have h5 := HM.out
        have h6 := HL.out
        rcases HC.out with ⟨_, h7⟩ | ⟨h7, _⟩
        · rw [if_neg (by omega)] at h1
          rw [h1]; rfl
        · omega
      · have hd : decide (r2 < 0) = false := by simp; omega
        go_wp2
        go_roundw
        case rel =>
          refine ⟨j + 1, r2, by omega, by go_num, rfl, ?_, hw, hw', hb2⟩
          have h2 := HQ.out
          have h3 := HB.out
          rcases HC.out with ⟨h7, _⟩ | ⟨_, _, h7⟩
          · omega
          · show r2 = _
            omega
        case measure => simp [intOf]; omega
    · have hd : decide ((j : Int) < (n : Int)) = false := by simp; omega
      have HE := Lib.hid (show j = n by omega)
      go_wp2
      go_ret
      refine ⟨?_, hb⟩
      have h1 := HR.out
      have h2 := HQ.out
      have h5 := HM.out
      have h6 := HL.out
      rw [HE.out, ← h6, List.take_length] at h2
      rw [if_pos (by omega)] at h1
      rw [show r = res by omega]; rfl
end Go.Proofs.YtedjclnojocjkaaGreatDoor.Parts
