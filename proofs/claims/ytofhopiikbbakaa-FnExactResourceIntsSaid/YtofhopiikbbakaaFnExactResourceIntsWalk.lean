/-
  The law FnExactResourceInts returns true, and leaves what was there as it was.
  Conditions: the arguments can be read.
-/
import Derived.Test.YtofhopiikbbakaaResInts
import Derived.Deep.RegionHeld3
namespace Go.Proofs.Ytofhopiikbbakaa.FnExactResourceIntsW
open Go Go.RowKit Go.Proofs.Ytofhopiikbbakaa.Mem Go.Proofs.Ytofhopiikbbakaa.Adr Go.Proofs.Ytofhopiikbbakaa.Res
set_option linter.unusedVariables false

set_option maxHeartbeats 2000000 in
set_option maxRecDepth 100000 in
theorem law_walk (kr hr pr qr : Int) (ar : Option Addr) (nr cr : Nat) (zr : List Int) (w : World) (rr : Row .i64 0 w.heap.size w ar nr zr) (br : (nr : Int) ≤ 9223372036854775807) (wkr : Wf kr) (whr : Wf hr) (wpr : Wf pr) (wqr : Wf qr) :
    Calls Try.prog 5 #[(Value.agg #[Value.int IntKind.i64 (kr), Value.slice (ar) (nr) (cr), Value.int IntKind.i64 (hr), Value.int IntKind.i64 (pr), Value.int IntKind.i64 (qr)])] w fun e w' => e = .returned (.bool true) ∧ Below w.heap.size w w' := by
  have hB0 : Below w.heap.size w (w.alloc (.cells #[.int .i64 kr, .slice ar nr cr, .int .i64 hr, .int .i64 pr, .int .i64 qr] 40)) := by repeat' (first | exact Below.refl _ _ | assumption | refine Below.setCell ?_ ?_ _ | refine Below.alloc ?_ ?_ _ | refine Adr.below_drewN ?_ _ | refine Below.drew ?_ | exact Nat.le_refl _ | omega | (dsimp only; omega) | refine Adr.le_alloc ?_ | refine Adr.le_set ?_ | refine Adr.le_drewN ?_ | refine Adr.le_drew ?_)
  have hs0 : (w.alloc (.cells #[.int .i64 kr, .slice ar nr cr, .int .i64 hr, .int .i64 pr, .int .i64 qr] 40)).heap.size = w.heap.size + 1 := by simp only [size_alloc]
  have Qr : Quint 40 (w.heap.size) (.int .i64 kr) (.slice ar nr cr) (.int .i64 hr) (.int .i64 pr) (.int .i64 qr) (w.alloc (.cells #[.int .i64 kr, .slice ar nr cr, .int .i64 hr, .int .i64 pr, .int .i64 qr] 40)) := by
    have := Quint.new 40 (.int .i64 kr) (.slice ar nr cr) (.int .i64 hr) (.int .i64 pr) (.int .i64 qr) w
    exact this
  have fr := rr.below hB0
  go_enter Try.func5, Try.ntmps5
  by_cases er : (nr : Int) ≤ 1048576
  rotate_left
  · have er' : ¬ ((nr : Int) ≤ 1048576) := by omega
    obtain ⟨q0, q1, q2, q3, q4⟩ := Qr.cells
    go_wp2_with fail
    go_at_call 18
    refine (sz_res kr hr pr qr ar nr cr (1048576) _ br (by omega) (by omega)).mono ?_
    rintro e w1 ⟨rfl, hb1⟩
    have hBx := hB0.trans (hb1.mono hB0.size)
    rw [show (if (nr : Int) ≤ 1048576 then 1048576 - (nr : Int) else -1) = -1 by rw [if_neg]; omega]
    go_wp2
    go_ret
    exact ⟨rfl, hBx⟩
  obtain ⟨qr_1_0, qr_1_1, qr_1_2, qr_1_3, qr_1_4⟩ := Qr.cells
  go_wp2_with fail
  go_at_call 18
  refine (sz_res kr hr pr qr ar nr cr (1048576) _ br (by omega) (by omega)).mono ?_
  rintro e w1 ⟨rfl, hb1⟩
  clear qr_1_0 qr_1_1 qr_1_2 qr_1_3 qr_1_4
  rw [if_pos er]
  have hs1 := hb1.size
  have Qr := Qr.below hb1
  have fr := fr.below hb1
  have hB1 := hB0.trans (hb1.mono hB0.size)
  have lr : decide ((1048576 - nr : Int) < 0) = false := by simp; omega
  obtain ⟨qr_2_0, qr_2_1, qr_2_2, qr_2_3, qr_2_4⟩ := Qr.cells
  go_wp2_with fail
  go_at_call 20
  refine (to_res 0 w.heap.size kr hr pr qr _ ar nr cr zr fr hB1.size (by omega)).mono ?_
  rintro e w2 ⟨ra2, rc2, rfl, ho2, hc2, hd2, hb2⟩
  clear qr_2_0 qr_2_1 qr_2_2 qr_2_3 qr_2_4
  have hs2 := hb2.size
  have Qr := Qr.below hb2
  have fr := fr.below hb2
  have hB2 := hB1.trans (hb2.mono hB1.size)
  have gM : Own .i64 w1.heap.size w2.heap.size w2 ra2 nr zr := ho2
  go_wp2_with fail
  go_at_call 22
  refine (ints_spec _ _ kr hr pr qr _ _ nr rc2 zr gM.row (by omega) wkr whr wpr wqr).mono ?_
  rintro e w3 ⟨ra3, rc3, rfl, ho3, hc3, hd3, hb3⟩
  have hs3 := hb3.size
  have Qr := Qr.below hb3
  have fr := fr.below hb3
  have hB3 := hB2.trans (hb3.mono hB2.size)
  have gW : Own .i64 w2.heap.size w3.heap.size w3 ra3 (5 + nr) (nums kr hr pr qr nr zr) := ho3
  obtain ⟨qr_4_0, qr_4_1, qr_4_2, qr_4_3, qr_4_4⟩ := Qr.cells
  go_wp2_with fail
  go_at_call 20
  refine (to_res 0 w.heap.size kr hr pr qr _ ar nr cr zr fr hB3.size (by omega)).mono ?_
  rintro e w4 ⟨ra4, rc4, rfl, ho4, hc4, hd4, hb4⟩
  clear qr_4_0 qr_4_1 qr_4_2 qr_4_3 qr_4_4
  have hs4 := hb4.size
  have Qr := Qr.below hb4
  have fr := fr.below hb4
  have gW := gW.below hb4
  have hB4 := hB3.trans (hb4.mono hB3.size)
  have gx : Own .i64 w3.heap.size w4.heap.size w4 ra4 nr zr := ho4
  have hA4 : Below w4.heap.size w4 (w4.alloc (.cells #[.int .i64 kr, .slice ra4 nr rc4, .int .i64 hr, .int .i64 pr, .int .i64 qr] 28)) := (Below.refl _ _).alloc (Nat.le_refl _) _
  have Qr := Qr.below hA4
  have fr := fr.below hA4
  have gW := gW.below hA4
  have gx := gx.below hA4
  have Qx := Quint.new 28 (.int .i64 kr) (.slice ra4 nr rc4) (.int .i64 hr) (.int .i64 pr) (.int .i64 qr) w4
  have hBy := hB4.trans (hA4.mono hB4.size)
  clear hB4; have hB4 := hBy; clear hBy
  have hz4 := hA4.size
  obtain ⟨qx_5_0, qx_5_1, qx_5_2, qx_5_3, qx_5_4⟩ := Qx.cells
  go_wp2_with fail
  go_at_call 14
  refine (ints_impl _ _ kr hr pr qr _ _ nr rc4 zr gx.row (by omega) wkr whr wpr wqr).mono ?_
  rintro e w5 ⟨ra5, rc5, rfl, ho5, hc5, hd5, hb5⟩
  clear qx_5_0 qx_5_1 qx_5_2 qx_5_3 qx_5_4
  have hs5 := hb5.size
  have Qr := Qr.below hb5
  have fr := fr.below hb5
  have gW := gW.below hb5
  have gx := gx.below hb5
  have Qx := Qx.below hb5
  have hB5 := hB4.trans (hb5.mono hB4.size)
  have gG : Own .i64 w4.heap.size w5.heap.size w5 ra5 (5 + nr) (nums kr hr pr qr nr zr) := ho5.more hz4 (Nat.le_refl _)
  go_wp2_with fail
  go_at_call 23
  refine (Nts.eq_same _ _ _ _ _ ra5 ra3 ((5 + nr)) _ _ _ gG.row gW.row (by omega)).mono ?_
  rintro e w6 ⟨rfl, m6, hw6⟩
  have hb6 : Below w5.heap.size w5 w6 := by rw [hw6]; exact Mem.below_drewN (Below.refl _ _) _
  clear hw6
  have hs6 := hb6.size
  have Qr := Qr.below hb6
  have fr := fr.below hb6
  have gW := gW.below hb6
  have gx := gx.below hb6
  have Qx := Qx.below hb6
  have gG := gG.below hb6
  have hB6 := hB5.trans (hb6.mono hB5.size)
  have hB := hB6
  have hs := hB.size
  have s3 := ten Qx Qr
  obtain ⟨s6_0, s6_1, s6_2, s6_3, s6_4, s6_5, s6_6, s6_7, s6_8, s6_9⟩ := s3
  go_wp2_with fail
  go_region_held3 (fun w' => w'.cell? ⟨w4.heap.size, 0, none⟩ = some (.int .i64 kr) ∧ w'.cell? ⟨w4.heap.size, 1, none⟩ = some (.slice ra4 nr rc4) ∧ w'.cell? ⟨w4.heap.size, 2, none⟩ = some (.int .i64 hr) ∧ w'.cell? ⟨w4.heap.size, 3, none⟩ = some (.int .i64 pr) ∧ w'.cell? ⟨w4.heap.size, 4, none⟩ = some (.int .i64 qr) ∧ w'.cell? ⟨w.heap.size, 0, none⟩ = some (.int .i64 kr) ∧ w'.cell? ⟨w.heap.size, 1, none⟩ = some (.slice ar nr cr) ∧ w'.cell? ⟨w.heap.size, 2, none⟩ = some (.int .i64 hr) ∧ w'.cell? ⟨w.heap.size, 3, none⟩ = some (.int .i64 pr) ∧ w'.cell? ⟨w.heap.size, 4, none⟩ = some (.int .i64 qr))
    (first | exact s3 | exact ⟨s6_0, s6_1, s6_2, s6_3, s6_4, s6_5, s6_6, s6_7, s6_8, s6_9⟩ | assumption | go_keep)
    (first
    | (go_at_call 20; refine (to_res 0 w.heap.size kr hr pr qr _ ar nr cr zr (fr.below ((Below.refl _ _).drew)) hB.size (by omega)).mono ?_; rintro e w9 ⟨ra9, rc9, rfl, ho9, hc9, hd9, hb9⟩; have Qr : Quint 40 (w.heap.size) (.int .i64 kr) (.slice ar nr cr) (.int .i64 hr) (.int .i64 pr) (.int .i64 qr) w9 := (by first | exact Qr.below hb9 | exact Qr.below (((Below.refl _ _).drew).trans hb9)); have fr : Row .i64 0 w.heap.size w9 ar nr zr := (by first | exact fr.below hb9 | exact fr.below (((Below.refl _ _).drew).trans hb9)); have gW : Own .i64 w2.heap.size w3.heap.size w9 ra3 (5 + nr) (nums kr hr pr qr nr zr) := (by first | exact gW.below hb9 | exact gW.below (((Below.refl _ _).drew).trans hb9)); have gx : Own .i64 w3.heap.size w4.heap.size w9 ra4 nr zr := (by first | exact gx.below hb9 | exact gx.below (((Below.refl _ _).drew).trans hb9)); have Qx : Quint 28 w4.heap.size (.int .i64 kr) (.slice ra4 nr rc4) (.int .i64 hr) (.int .i64 pr) (.int .i64 qr) w9 := (by first | exact Qx.below hb9 | exact Qx.below (((Below.refl _ _).drew).trans hb9)); have gG : Own .i64 w4.heap.size w5.heap.size w9 ra5 (5 + nr) (nums kr hr pr qr nr zr) := (by first | exact gG.below hb9 | exact gG.below (((Below.refl _ _).drew).trans hb9)); have s3 := ten Qx Qr; have hB : Below w.heap.size w w9 := (by first | exact hB.trans (hb9.mono hB.size) | exact hB.drew.trans (hb9.mono hB.size)))
    | (go_at_call 21; refine (eq_res _ _ _ _ kr hr pr qr _ _ _ nr _ _ zr gx.row ho9.row (by omega)).mono ?_; rintro e w9 ⟨rfl, hb9⟩; have Qr : Quint 40 (w.heap.size) (.int .i64 kr) (.slice ar nr cr) (.int .i64 hr) (.int .i64 pr) (.int .i64 qr) w9 := (by first | exact Qr.below hb9 | exact Qr.below (((Below.refl _ _).drew).trans hb9)); have fr : Row .i64 0 w.heap.size w9 ar nr zr := (by first | exact fr.below hb9 | exact fr.below (((Below.refl _ _).drew).trans hb9)); have gW : Own .i64 w2.heap.size w3.heap.size w9 ra3 (5 + nr) (nums kr hr pr qr nr zr) := (by first | exact gW.below hb9 | exact gW.below (((Below.refl _ _).drew).trans hb9)); have gx : Own .i64 w3.heap.size w4.heap.size w9 ra4 nr zr := (by first | exact gx.below hb9 | exact gx.below (((Below.refl _ _).drew).trans hb9)); have Qx : Quint 28 w4.heap.size (.int .i64 kr) (.slice ra4 nr rc4) (.int .i64 hr) (.int .i64 pr) (.int .i64 qr) w9 := (by first | exact Qx.below hb9 | exact Qx.below (((Below.refl _ _).drew).trans hb9)); have gG : Own .i64 w4.heap.size w5.heap.size w9 ra5 (5 + nr) (nums kr hr pr qr nr zr) := (by first | exact gG.below hb9 | exact gG.below (((Below.refl _ _).drew).trans hb9)); have s3 := ten Qx Qr; have hB : Below w.heap.size w w9 := (by first | exact hB.trans (hb9.mono hB.size) | exact hB.drew.trans (hb9.mono hB.size)))
    )
  all_goals
    have hB9 := hB
    obtain ⟨qx_10_0, qx_10_1, qx_10_2, qx_10_3, qx_10_4⟩ := Qx.cells
    go_wp2_with fail
    go_at_call 24
    refine (mark_res w3.heap.size w4.heap.size 1 kr hr pr qr _ _ nr _ zr gx (by omega)).mono ?_
    rintro e w10 ⟨rfl, ho10, hz10⟩
    clear qx_10_0 qx_10_1 qx_10_2 qx_10_3 qx_10_4
    have hs10 := hz10.size
    have Qr := Qr.zone hz10 (by omega)
    have fr := fr.zone hz10 (by omega)
    have gW := gW.zone hz10 (by omega)
    have Qx := Qx.zone hz10 (by omega)
    have gG := gG.zone hz10 (by omega)
    have hB10 := hB9.trans (hz10.below (by omega) hB9.size)
    clear gx; have gx := ho10
    go_wp2_with fail
    go_at_call 23
    refine (Nts.eq_same _ _ _ _ _ ra5 ra3 ((5 + nr)) _ _ _ gG.row gW.row (by omega)).mono ?_
    rintro e w11 ⟨rfl, m11, hw11⟩
    have hb11 : Below w10.heap.size w10 w11 := by rw [hw11]; exact Mem.below_drewN (Below.refl _ _) _
    clear hw11
    have hs11 := hb11.size
    have Qr := Qr.below hb11
    have fr := fr.below hb11
    have gW := gW.below hb11
    have Qx := Qx.below hb11
    have gG := gG.below hb11
    have gx := gx.below hb11
    have hB11 := hB10.trans (hb11.mono hB10.size)
    go_wp2_with fail
    go_at_call 25
    refine (Nts.mark_any w4.heap.size w5.heap.size 1 _ ra5 ((5 + nr)) _ _ gG (by omega)).mono ?_
    rintro e w12 ⟨rfl, ho12, hz12⟩
    have hs12 := hz12.size
    have Qr := Qr.zone hz12 (by omega)
    have fr := fr.zone hz12 (by omega)
    have gW := gW.zone hz12 (by omega)
    have hB12 := hB11.trans (hz12.below (by omega) hB11.size)
    clear gG; have gG := ho12
    go_wp2_with fail
    go_at_call 26
    refine (Nts.held_any _ _ 1 _ ra5 ((5 + nr)) _ gG.row (by omega)).mono ?_
    rintro e w13 ⟨rfl, m13, hw13⟩
    have hb13 : Below w12.heap.size w12 w13 := by rw [hw13]; exact Mem.below_drewN (Below.refl _ _) _
    clear hw13
    have hs13 := hb13.size
    have Qr := Qr.below hb13
    have fr := fr.below hb13
    have gW := gW.below hb13
    have gG := gG.below hb13
    have hB13 := hB12.trans (hb13.mono hB12.size)
    obtain ⟨qr_14_0, qr_14_1, qr_14_2, qr_14_3, qr_14_4⟩ := Qr.cells
    go_wp2_with fail
    go_at_call 20
    refine (to_res 0 w.heap.size kr hr pr qr _ ar nr cr zr fr hB13.size (by omega)).mono ?_
    rintro e w14 ⟨ra14, rc14, rfl, ho14, hc14, hd14, hb14⟩
    clear qr_14_0 qr_14_1 qr_14_2 qr_14_3 qr_14_4
    have hs14 := hb14.size
    have Qr := Qr.below hb14
    have fr := fr.below hb14
    have gW := gW.below hb14
    have gG := gG.below hb14
    have hB14 := hB13.trans (hb14.mono hB13.size)
    have gM : Own .i64 w13.heap.size w14.heap.size w14 ra14 nr zr := ho14
    go_wp2_with fail
    go_at_call 14
    refine (ints_impl _ _ kr hr pr qr _ _ nr rc14 zr gM.row (by omega) wkr whr wpr wqr).mono ?_
    rintro e w15 ⟨ra15, rc15, rfl, ho15, hc15, hd15, hb15⟩
    have hs15 := hb15.size
    have Qr := Qr.below hb15
    have fr := fr.below hb15
    have gW := gW.below hb15
    have gG := gG.below hb15
    have hB15 := hB14.trans (hb15.mono hB14.size)
    have gH := ho15
    go_wp2_with fail
    go_at_call 23
    refine (Nts.eq_same _ _ _ _ _ ra15 ra3 ((5 + nr)) _ _ _ gH.row gW.row (by omega)).mono ?_
    rintro e w16 ⟨rfl, m16, hw16⟩
    have hb16 : Below w15.heap.size w15 w16 := by rw [hw16]; exact Mem.below_drewN (Below.refl _ _) _
    clear hw16
    have hs16 := hb16.size
    have Qr := Qr.below hb16
    have fr := fr.below hb16
    have gW := gW.below hb16
    have gG := gG.below hb16
    have gH := gH.below hb16
    have hB16 := hB15.trans (hb16.mono hB15.size)
    go_wp2_with fail
    go_at_call 26
    refine (Nts.held_any _ _ 1 _ ra5 ((5 + nr)) _ gG.row (by omega)).mono ?_
    rintro e w17 ⟨rfl, m17, hw17⟩
    have hb17 : Below w16.heap.size w16 w17 := by rw [hw17]; exact Mem.below_drewN (Below.refl _ _) _
    clear hw17
    have hs17 := hb17.size
    have Qr := Qr.below hb17
    have fr := fr.below hb17
    have gW := gW.below hb17
    have gG := gG.below hb17
    have gH := gH.below hb17
    have hB17 := hB16.trans (hb17.mono hB16.size)
    go_wp2
    go_ret
    exact ⟨rfl, hB17⟩
end Go.Proofs.Ytofhopiikbbakaa.FnExactResourceIntsW
