/-
  Whether one more move is followed: the program.
  Conditions: the addresses that were asked lie in memory.
-/
import Derived.Test.YtldpgkbemgpacaaContains
import Derived.Test.YtldpgkbemgpacaaFollowMath
import Derived.Deep.RegionHeld3
namespace Go.Proofs.Ytldpgkbemgpacaa.Sites
open Go Go.RowKit Go.Proofs.Ytldpgkbemgpacaa.Mem Go.Proofs.Ytldpgkbemgpacaa.Gen Go.Proofs.Ytldpgkbemgpacaa.Adr Go.Proofs.Ytldpgkbemgpacaa.Res

/-- The cells of an inquiry. -/
def inqCells (mb : Nat) (t : Int) (v : Value) (r : TResource) (a : Option Addr) (d : Nat) : List Value := [.map (some mb), .int .i64 t, v, .int .i64 r.f0, .slice a r.f1.length d, .int .i64 r.f2.f0, .int .i64 r.f2.f1, .int .i64 r.f2.f2]
set_option maxHeartbeats 4000000 in
set_option maxRecDepth 100000 in
theorem can_follow (w : World) (b mb : Nat) (t : Int) (xa : Option Addr) (xc : Nat) (Q : List TAddress) (r : TResource) (a : Option Addr) (d : Nat) (qI : Blk 72 b (inqCells mb t (.slice xa Q.length xc) r a d) w) (hq : Lies 0 w.heap.size w (dAddress Q) (.slice xa Q.length xc)) (hn5 : Q.length ≤ 1000) (hn1 : 1 ≤ Q.length) :
    Calls Try.prog 49 #[.pointer (some ⟨b, 0, none⟩)] w fun e w' => e = .returned (.bool (moves Q r)) ∧ Below w.heap.size w w' := by
  have hC := fun (W : World) (hb : Below w.heap.size w W) => contains_addr 0 w.heap.size W xa xc Q (hq.under hb (Nat.le_refl _)) hb.size (by omega) r.f2
  obtain ⟨n, hn⟩ : ∃ n, Q.length = n := ⟨_, rfl⟩
  obtain ⟨bh, hbh⟩ : ∃ x, hasA Q r.f2 = x := ⟨_, rfl⟩
  obtain ⟨M, hM⟩ : ∃ x, moves Q r = x := ⟨_, rfl⟩
  rw [hbh] at hC
  rw [hM]
  rw [hn] at hC qI hn5 hn1
  have q0 : w.cell? ⟨b, 2, none⟩ = some (.slice xa n xc) := qI.at rfl
  have q3 : w.cell? ⟨b, 3, none⟩ = some (.int .i64 r.f0) := qI.at rfl
  have q5 : w.cell? ⟨b, 5, none⟩ = some (.int .i64 r.f2.f0) := qI.at rfl
  have q6 : w.cell? ⟨b, 6, none⟩ = some (.int .i64 r.f2.f1) := qI.at rfl
  have q7 : w.cell? ⟨b, 7, none⟩ = some (.int .i64 r.f2.f2) := qI.at rfl
  have hw1 : IntKind.wrap .i64 ((n : Int) - 1) = (n : Int) - 1 := by rw [IntKind.wrap_i64]; omega
  by_cases h3 : r.f0 = 3
  · have e3 : (r.f0 == 3) = true := by simpa using h3
    by_cases h4 : n ≤ 4
    · have d4 : decide ((n : Int) - 1 < 4) = true := by simp; omega
      have hM2 : M = !bh := by rw [← hM, moves_has h3 (by rw [hn]; exact h4), hbh]
      have HM2 := Lib.hid hM2
      clear hM2 hM hbh hn hq
      have s3 : w.drew.cell? ⟨b, 2, none⟩ = some (.slice xa n xc) ∧ w.drew.cell? ⟨b, 3, none⟩ = some (.int .i64 r.f0) ∧ w.drew.cell? ⟨b, 5, none⟩ = some (.int .i64 r.f2.f0) ∧ w.drew.cell? ⟨b, 6, none⟩ = some (.int .i64 r.f2.f1) ∧ w.drew.cell? ⟨b, 7, none⟩ = some (.int .i64 r.f2.f2) := ⟨qI.at rfl, qI.at rfl, qI.at rfl, qI.at rfl, qI.at rfl⟩
      have hCd := hC w.drew ((Below.refl _ _).drew)
      clear hC
      go_enter Try.func49, Try.ntmps49
      go_upto_region 2 with fail
      go_region_held3 (fun w' => w'.cell? ⟨b, 2, none⟩ = some (.slice xa n xc) ∧ w'.cell? ⟨b, 3, none⟩ = some (.int .i64 r.f0) ∧ w'.cell? ⟨b, 5, none⟩ = some (.int .i64 r.f2.f0) ∧ w'.cell? ⟨b, 6, none⟩ = some (.int .i64 r.f2.f1) ∧ w'.cell? ⟨b, 7, none⟩ = some (.int .i64 r.f2.f2))
        (first | (with_reducible exact s3) | go_keep)
        (first
        | (go_at_call 70; refine Calls.mono hCd ?_; rintro e u1 ⟨rfl, hb1⟩; have qI1 := Blk.below (w := w.drew) qI hb1; have s3 : u1.cell? ⟨b, 2, none⟩ = some (.slice xa n xc) ∧ u1.cell? ⟨b, 3, none⟩ = some (.int .i64 r.f0) ∧ u1.cell? ⟨b, 5, none⟩ = some (.int .i64 r.f2.f0) ∧ u1.cell? ⟨b, 6, none⟩ = some (.int .i64 r.f2.f1) ∧ u1.cell? ⟨b, 7, none⟩ = some (.int .i64 r.f2.f2) := ⟨qI1.at rfl, qI1.at rfl, qI1.at rfl, qI1.at rfl, qI1.at rfl⟩))
      all_goals
        go_wp2
        go_ret
        have hm := HM2.out
        exact ⟨by first | (rw [hm]; done) | (rw [hm]; rfl), (((Below.refl w.heap.size w).drew).trans hb1)⟩
    · have d4 : decide ((n : Int) - 1 < 4) = false := by simp; omega
      have hM2 : M = false := by rw [← hM]; exact moves_len (by rw [hn]; exact h4)
      have HM2 := Lib.hid hM2
      clear hM2 hM hbh hn hq hC
      go_enter Try.func49, Try.ntmps49
      go_upto_region 2 with fail
      go_quiet (fail)
      go_wp2
      go_ret
      have hm := HM2.out
      exact ⟨by first | (rw [hm]; done) | (rw [hm]; rfl), gbelow_drewN (Below.refl _ _) _⟩
  · have e3 : (r.f0 == 3) = false := by simpa using h3
    have hM2 : M = false := by rw [← hM]; exact moves_kind h3
    have HM2 := Lib.hid hM2
    clear hM2 hM hbh hn hq hC
    go_enter Try.func49, Try.ntmps49
    go_upto_region 2 with fail
    go_quiet (fail)
    go_wp2
    go_ret
    have hm := HM2.out
    exact ⟨by first | (rw [hm]; done) | (rw [hm]; rfl), gbelow_drewN (Below.refl _ _) _⟩
end Go.Proofs.Ytldpgkbemgpacaa.Sites
