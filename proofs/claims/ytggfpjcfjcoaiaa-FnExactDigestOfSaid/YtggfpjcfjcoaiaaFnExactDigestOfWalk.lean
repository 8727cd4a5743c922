/-
  The law FnExactDigestOf returns true, and leaves what was there as it was.
  Conditions: the arguments can be read.
-/
import Derived.Test.YtggfpjcfjcoaiaaDigest
import Derived.Deep.RegionHeld3
namespace Go.Proofs.Ytggfpjcfjcoaiaa.FnExactDigestOfW
open Go Go.RowKit Go.Proofs.Ytggfpjcfjcoaiaa.Mem Go.Proofs.Ytggfpjcfjcoaiaa.Adr Go.Proofs.Ytggfpjcfjcoaiaa.Res
set_option linter.unusedVariables false

set_option maxHeartbeats 2000000 in
set_option maxRecDepth 100000 in
theorem law_walk (kr hr pr qr : Int) (ar : Option Addr) (nr cr : Nat) (zr : List Int) (w : World) (rr : Row .i64 0 w.heap.size w ar nr zr) (br : (nr : Int) ≤ 9223372036854775807) (wkr : Wf kr) (whr : Wf hr) (wpr : Wf pr) (wqr : Wf qr) :
    Calls Try.prog 4 #[(Value.agg #[Value.int IntKind.i64 (kr), Value.slice (ar) (nr) (cr), Value.int IntKind.i64 (hr), Value.int IntKind.i64 (pr), Value.int IntKind.i64 (qr)])] w fun e w' => e = .returned (.bool true) ∧ Below w.heap.size w w' := by
  have hB0 : Below w.heap.size w (w.alloc (.cells #[.int .i64 kr, .slice ar nr cr, .int .i64 hr, .int .i64 pr, .int .i64 qr] 36)) := by repeat' (first | exact Below.refl _ _ | assumption | refine Below.setCell ?_ ?_ _ | refine Below.alloc ?_ ?_ _ | refine Adr.below_drewN ?_ _ | refine Below.drew ?_ | exact Nat.le_refl _ | omega | (dsimp only; omega) | refine Adr.le_alloc ?_ | refine Adr.le_set ?_ | refine Adr.le_drewN ?_ | refine Adr.le_drew ?_)
  have hs0 : (w.alloc (.cells #[.int .i64 kr, .slice ar nr cr, .int .i64 hr, .int .i64 pr, .int .i64 qr] 36)).heap.size = w.heap.size + 1 := by simp only [size_alloc]
  have Qr : Quint 36 (w.heap.size) (.int .i64 kr) (.slice ar nr cr) (.int .i64 hr) (.int .i64 pr) (.int .i64 qr) (w.alloc (.cells #[.int .i64 kr, .slice ar nr cr, .int .i64 hr, .int .i64 pr, .int .i64 qr] 36)) := by
    have := Quint.new 36 (.int .i64 kr) (.slice ar nr cr) (.int .i64 hr) (.int .i64 pr) (.int .i64 qr) w
    exact this
  have fr := rr.below hB0
  go_enter Try.func4, Try.ntmps4
  by_cases er : (nr : Int) ≤ 1048576
  rotate_left
  · have er' : ¬ ((nr : Int) ≤ 1048576) := by omega
    obtain ⟨q0, q1, q2, q3, q4⟩ := Qr.cells
    go_wp2_with fail
    go_at_call 15
    refine (sz_res kr hr pr qr ar nr cr (1048576) _ br (by omega) (by omega)).mono ?_
    rintro e w1 ⟨rfl, hb1⟩
    have hBx := hB0.trans (hb1.mono hB0.size)
    rw [show (if (nr : Int) ≤ 1048576 then 1048576 - (nr : Int) else -1) = -1 by rw [if_neg]; omega]
    go_wp2
    go_ret
    exact ⟨rfl, hBx⟩
  obtain ⟨qr_1_0, qr_1_1, qr_1_2, qr_1_3, qr_1_4⟩ := Qr.cells
  go_wp2_with fail
  go_at_call 15
  refine (sz_res kr hr pr qr ar nr cr (1048576) _ br (by omega) (by omega)).mono ?_
  rintro e w1 ⟨rfl, hb1⟩
  clear qr_1_0 qr_1_1 qr_1_2 qr_1_3 qr_1_4
  rw [if_pos er]
  have hs1 := hb1.size
  have Qr := Qr.below hb1
  have fr := fr.below hb1
  have hB1 := hB0.trans (hb1.mono hB0.size)
  have lr : decide ((1048576 - nr : Int) < 0) = false := by simp; omega
  obtain ⟨qr_2_0, qr_2_1, qr_2_2, qr_2_3, qr_2_4⟩ := Qr.cells
  go_wp2_with fail
  go_at_call 17
  refine (to_res 0 w.heap.size kr hr pr qr _ ar nr cr zr fr hB1.size (by omega)).mono ?_
  rintro e w2 ⟨ra2, rc2, rfl, ho2, hc2, hd2, hb2⟩
  clear qr_2_0 qr_2_1 qr_2_2 qr_2_3 qr_2_4
  have hs2 := hb2.size
  have Qr := Qr.below hb2
  have fr := fr.below hb2
  have hB2 := hB1.trans (hb2.mono hB1.size)
  have gM : Own .i64 w1.heap.size w2.heap.size w2 ra2 nr zr := ho2
  go_wp2_with fail
  go_at_call 16
  refine (digest_spec _ _ kr hr pr qr _ _ nr rc2 zr gM.row (by omega) wkr whr wpr wqr).mono ?_
  rintro e w3 ⟨rfl, hb3⟩
  have hs3 := hb3.size
  have Qr := Qr.below hb3
  have fr := fr.below hb3
  have hB3 := hB2.trans (hb3.mono hB2.size)
  obtain ⟨qr_4_0, qr_4_1, qr_4_2, qr_4_3, qr_4_4⟩ := Qr.cells
  go_wp2_with fail
  go_at_call 17
  refine (to_res 0 w.heap.size kr hr pr qr _ ar nr cr zr fr hB3.size (by omega)).mono ?_
  rintro e w4 ⟨ra4, rc4, rfl, ho4, hc4, hd4, hb4⟩
  clear qr_4_0 qr_4_1 qr_4_2 qr_4_3 qr_4_4
  have hs4 := hb4.size
  have Qr := Qr.below hb4
  have fr := fr.below hb4
  have hB4 := hB3.trans (hb4.mono hB3.size)
  have gx : Own .i64 w3.heap.size w4.heap.size w4 ra4 nr zr := ho4
  have hA4 : Below w4.heap.size w4 (w4.alloc (.cells #[.int .i64 kr, .slice ra4 nr rc4, .int .i64 hr, .int .i64 pr, .int .i64 qr] 41)) := (Below.refl _ _).alloc (Nat.le_refl _) _
  have Qr := Qr.below hA4
  have fr := fr.below hA4
  have gx := gx.below hA4
  have Qx := Quint.new 41 (.int .i64 kr) (.slice ra4 nr rc4) (.int .i64 hr) (.int .i64 pr) (.int .i64 qr) w4
  have hBy := hB4.trans (hA4.mono hB4.size)
  clear hB4; have hB4 := hBy; clear hBy
  have hz4 := hA4.size
  obtain ⟨qx_5_0, qx_5_1, qx_5_2, qx_5_3, qx_5_4⟩ := Qx.cells
  go_wp2_with fail
  go_at_call 18
  refine (digest_impl _ _ kr hr pr qr _ _ nr rc4 zr gx.row (by omega) wkr whr wpr wqr).mono ?_
  rintro e w5 ⟨rfl, hb5⟩
  clear qx_5_0 qx_5_1 qx_5_2 qx_5_3 qx_5_4
  have hs5 := hb5.size
  have Qr := Qr.below hb5
  have fr := fr.below hb5
  have gx := gx.below hb5
  have Qx := Qx.below hb5
  have hB5 := hB4.trans (hb5.mono hB4.size)
  have hB := hB5
  have hs := hB.size
  have s3 := ten Qx Qr
  obtain ⟨s5_0, s5_1, s5_2, s5_3, s5_4, s5_5, s5_6, s5_7, s5_8, s5_9⟩ := s3
  go_wp2_with fail
  go_region_held3 (fun w' => w'.cell? ⟨w4.heap.size, 0, none⟩ = some (.int .i64 kr) ∧ w'.cell? ⟨w4.heap.size, 1, none⟩ = some (.slice ra4 nr rc4) ∧ w'.cell? ⟨w4.heap.size, 2, none⟩ = some (.int .i64 hr) ∧ w'.cell? ⟨w4.heap.size, 3, none⟩ = some (.int .i64 pr) ∧ w'.cell? ⟨w4.heap.size, 4, none⟩ = some (.int .i64 qr) ∧ w'.cell? ⟨w.heap.size, 0, none⟩ = some (.int .i64 kr) ∧ w'.cell? ⟨w.heap.size, 1, none⟩ = some (.slice ar nr cr) ∧ w'.cell? ⟨w.heap.size, 2, none⟩ = some (.int .i64 hr) ∧ w'.cell? ⟨w.heap.size, 3, none⟩ = some (.int .i64 pr) ∧ w'.cell? ⟨w.heap.size, 4, none⟩ = some (.int .i64 qr))
    (first | exact s3 | exact ⟨s5_0, s5_1, s5_2, s5_3, s5_4, s5_5, s5_6, s5_7, s5_8, s5_9⟩ | assumption | go_keep)
    (first
    | (go_at_call 17; refine (to_res 0 w.heap.size kr hr pr qr _ ar nr cr zr (fr.below ((Below.refl _ _).drew)) hB.size (by omega)).mono ?_; rintro e u1 ⟨ra9, rc9, rfl, ho9, hc9, hd9, hb9⟩; have Qr : Quint 36 (w.heap.size) (.int .i64 kr) (.slice ar nr cr) (.int .i64 hr) (.int .i64 pr) (.int .i64 qr) u1 := (by first | exact Qr.below hb9 | exact Qr.below (((Below.refl _ _).drew).trans hb9)); have fr : Row .i64 0 w.heap.size u1 ar nr zr := (by first | exact fr.below hb9 | exact fr.below (((Below.refl _ _).drew).trans hb9)); have gx : Own .i64 w3.heap.size w4.heap.size u1 ra4 nr zr := (by first | exact gx.below hb9 | exact gx.below (((Below.refl _ _).drew).trans hb9)); have Qx : Quint 41 w4.heap.size (.int .i64 kr) (.slice ra4 nr rc4) (.int .i64 hr) (.int .i64 pr) (.int .i64 qr) u1 := (by first | exact Qx.below hb9 | exact Qx.below (((Below.refl _ _).drew).trans hb9)); have s3 := ten Qx Qr; have hB : Below w.heap.size w u1 := (by first | exact hB.trans (hb9.mono hB.size) | exact hB.drew.trans (hb9.mono hB.size)))
    | (go_at_call 19; refine (eq_res _ _ _ _ kr hr pr qr _ _ _ nr _ _ zr gx.row ho9.row (by omega)).mono ?_; rintro e u1 ⟨rfl, hb9⟩; have Qr : Quint 36 (w.heap.size) (.int .i64 kr) (.slice ar nr cr) (.int .i64 hr) (.int .i64 pr) (.int .i64 qr) u1 := (by first | exact Qr.below hb9 | exact Qr.below (((Below.refl _ _).drew).trans hb9)); have fr : Row .i64 0 w.heap.size u1 ar nr zr := (by first | exact fr.below hb9 | exact fr.below (((Below.refl _ _).drew).trans hb9)); have gx : Own .i64 w3.heap.size w4.heap.size u1 ra4 nr zr := (by first | exact gx.below hb9 | exact gx.below (((Below.refl _ _).drew).trans hb9)); have Qx : Quint 41 w4.heap.size (.int .i64 kr) (.slice ra4 nr rc4) (.int .i64 hr) (.int .i64 pr) (.int .i64 qr) u1 := (by first | exact Qx.below hb9 | exact Qx.below (((Below.refl _ _).drew).trans hb9)); have s3 := ten Qx Qr; have hB : Below w.heap.size w u1 := (by first | exact hB.trans (hb9.mono hB.size) | exact hB.drew.trans (hb9.mono hB.size)))
    )
  all_goals
    go_wp2
    go_ret
    exact ⟨rfl, hB⟩
end Go.Proofs.Ytggfpjcfjcoaiaa.FnExactDigestOfW
