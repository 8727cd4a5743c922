/-
  The law FnExactEqualResources returns true, and leaves what was there as it was.
  Conditions: the arguments can be read.
-/
import Derived.Test.YtofhopiikbbakaaResInts
import Derived.Deep.RegionHeld3
namespace Go.Proofs.Ytofhopiikbbakaa.FnExactEqualResourcesW
open Go Go.RowKit Go.Proofs.Ytofhopiikbbakaa.Mem Go.Proofs.Ytofhopiikbbakaa.Adr Go.Proofs.Ytofhopiikbbakaa.Res
set_option linter.unusedVariables false

set_option maxHeartbeats 2000000 in
set_option maxRecDepth 100000 in
theorem law_walk (ka ha pa qa : Int) (aa : Option Addr) (na ca : Nat) (za : List Int) (kb hb pb qb : Int) (ab : Option Addr) (nb cb : Nat) (zb : List Int) (w : World) (ra : Row .i64 0 w.heap.size w aa na za) (rb : Row .i64 0 w.heap.size w ab nb zb) (ba : (na : Int) ≤ 9223372036854775807) (bb : (nb : Int) ≤ 9223372036854775807) (wka : Wf ka) (wha : Wf ha) (wpa : Wf pa) (wqa : Wf qa) (wkb : Wf kb) (whb : Wf hb) (wpb : Wf pb) (wqb : Wf qb) :
    Calls Try.prog 6 #[(Value.agg #[Value.int IntKind.i64 (ka), Value.slice (aa) (na) (ca), Value.int IntKind.i64 (ha), Value.int IntKind.i64 (pa), Value.int IntKind.i64 (qa)]), (Value.agg #[Value.int IntKind.i64 (kb), Value.slice (ab) (nb) (cb), Value.int IntKind.i64 (hb), Value.int IntKind.i64 (pb), Value.int IntKind.i64 (qb)])] w fun e w' => e = .returned (.bool true) ∧ Below w.heap.size w w' := by
  have hB0 : Below w.heap.size w ((w.alloc (.cells #[.int .i64 ka, .slice aa na ca, .int .i64 ha, .int .i64 pa, .int .i64 qa] 40)).alloc (.cells #[.int .i64 kb, .slice ab nb cb, .int .i64 hb, .int .i64 pb, .int .i64 qb] 40)) := by repeat' (first | exact Below.refl _ _ | assumption | refine Below.setCell ?_ ?_ _ | refine Below.alloc ?_ ?_ _ | refine Adr.below_drewN ?_ _ | refine Below.drew ?_ | exact Nat.le_refl _ | omega | (dsimp only; omega) | refine Adr.le_alloc ?_ | refine Adr.le_set ?_ | refine Adr.le_drewN ?_ | refine Adr.le_drew ?_)
  have hs0 : ((w.alloc (.cells #[.int .i64 ka, .slice aa na ca, .int .i64 ha, .int .i64 pa, .int .i64 qa] 40)).alloc (.cells #[.int .i64 kb, .slice ab nb cb, .int .i64 hb, .int .i64 pb, .int .i64 qb] 40)).heap.size = w.heap.size + 2 := by simp only [size_alloc]
  have Qa : Quint 40 (w.heap.size) (.int .i64 ka) (.slice aa na ca) (.int .i64 ha) (.int .i64 pa) (.int .i64 qa) ((w.alloc (.cells #[.int .i64 ka, .slice aa na ca, .int .i64 ha, .int .i64 pa, .int .i64 qa] 40)).alloc (.cells #[.int .i64 kb, .slice ab nb cb, .int .i64 hb, .int .i64 pb, .int .i64 qb] 40)) := by
    have := (Quint.new 40 (.int .i64 ka) (.slice aa na ca) (.int .i64 ha) (.int .i64 pa) (.int .i64 qa) w).alloc (.cells #[.int .i64 kb, .slice ab nb cb, .int .i64 hb, .int .i64 pb, .int .i64 qb] 40)
    exact this
  have fa := ra.below hB0
  have Qb : Quint 40 (w.heap.size + 1) (.int .i64 kb) (.slice ab nb cb) (.int .i64 hb) (.int .i64 pb) (.int .i64 qb) ((w.alloc (.cells #[.int .i64 ka, .slice aa na ca, .int .i64 ha, .int .i64 pa, .int .i64 qa] 40)).alloc (.cells #[.int .i64 kb, .slice ab nb cb, .int .i64 hb, .int .i64 pb, .int .i64 qb] 40)) := by
    have := Quint.new 40 (.int .i64 kb) (.slice ab nb cb) (.int .i64 hb) (.int .i64 pb) (.int .i64 qb) (w.alloc (.cells #[.int .i64 ka, .slice aa na ca, .int .i64 ha, .int .i64 pa, .int .i64 qa] 40))
    rw [size_alloc] at this
    exact this
  have fb := rb.below hB0
  go_enter Try.func6, Try.ntmps6
  by_cases ea : (na : Int) ≤ 1048576
  rotate_left
  · have ea' : ¬ ((na : Int) ≤ 1048576) := by omega
    obtain ⟨q0, q1, q2, q3, q4⟩ := Qa.cells
    go_wp2_with fail
    go_at_call 18
    refine (sz_res ka ha pa qa aa na ca (1048576) _ ba (by omega) (by omega)).mono ?_
    rintro e w1 ⟨rfl, hb1⟩
    have hBx := hB0.trans (hb1.mono hB0.size)
    rw [show (if (na : Int) ≤ 1048576 then 1048576 - (na : Int) else -1) = -1 by rw [if_neg]; omega]
    go_wp2
    go_ret
    exact ⟨rfl, hBx⟩
  obtain ⟨qa_1_0, qa_1_1, qa_1_2, qa_1_3, qa_1_4⟩ := Qa.cells
  go_wp2_with fail
  go_at_call 18
  refine (sz_res ka ha pa qa aa na ca (1048576) _ ba (by omega) (by omega)).mono ?_
  rintro e w1 ⟨rfl, hb1⟩
  clear qa_1_0 qa_1_1 qa_1_2 qa_1_3 qa_1_4
  rw [if_pos ea]
  have hs1 := hb1.size
  have Qa := Qa.below hb1
  have fa := fa.below hb1
  have Qb := Qb.below hb1
  have fb := fb.below hb1
  have hB1 := hB0.trans (hb1.mono hB0.size)
  have la : decide ((1048576 - na : Int) < 0) = false := by simp; omega
  by_cases eb : (nb : Int) ≤ 1048576 - na
  rotate_left
  · have eb' : ¬ ((nb : Int) ≤ 1048576 - na) := by omega
    obtain ⟨q0, q1, q2, q3, q4⟩ := Qb.cells
    go_wp2_with fail
    go_at_call 18
    refine (sz_res kb hb pb qb ab nb cb (1048576 - na) _ bb (by omega) (by omega)).mono ?_
    rintro e w1 ⟨rfl, hb1⟩
    have hBx := hB1.trans (hb1.mono hB1.size)
    rw [show (if (nb : Int) ≤ 1048576 - na then 1048576 - na - (nb : Int) else -1) = -1 by rw [if_neg]; omega]
    go_wp2
    go_ret
    exact ⟨rfl, hBx⟩
  obtain ⟨qb_2_0, qb_2_1, qb_2_2, qb_2_3, qb_2_4⟩ := Qb.cells
  go_wp2_with fail
  go_at_call 18
  refine (sz_res kb hb pb qb ab nb cb (1048576 - na) _ bb (by omega) (by omega)).mono ?_
  rintro e w2 ⟨rfl, hb2⟩
  clear qb_2_0 qb_2_1 qb_2_2 qb_2_3 qb_2_4
  rw [if_pos eb]
  have hs2 := hb2.size
  have Qa := Qa.below hb2
  have fa := fa.below hb2
  have Qb := Qb.below hb2
  have fb := fb.below hb2
  have hB2 := hB1.trans (hb2.mono hB1.size)
  have lb : decide ((1048576 - na - nb : Int) < 0) = false := by simp; omega
  have hB := hB2
  have hs := hB.size
  obtain ⟨s0, s1, s2, s3, s4, s5, s6, s7, s8, s9⟩ := ten Qa Qb
  go_wp2_with fail
  go_region_held3 (fun w' => w'.cell? ⟨w.heap.size, 0, none⟩ = some (.int .i64 ka) ∧ w'.cell? ⟨w.heap.size, 1, none⟩ = some (.slice aa na ca) ∧ w'.cell? ⟨w.heap.size, 2, none⟩ = some (.int .i64 ha) ∧ w'.cell? ⟨w.heap.size, 3, none⟩ = some (.int .i64 pa) ∧ w'.cell? ⟨w.heap.size, 4, none⟩ = some (.int .i64 qa) ∧ w'.cell? ⟨w.heap.size + 1, 0, none⟩ = some (.int .i64 kb) ∧ w'.cell? ⟨w.heap.size + 1, 1, none⟩ = some (.slice ab nb cb) ∧ w'.cell? ⟨w.heap.size + 1, 2, none⟩ = some (.int .i64 hb) ∧ w'.cell? ⟨w.heap.size + 1, 3, none⟩ = some (.int .i64 pb) ∧ w'.cell? ⟨w.heap.size + 1, 4, none⟩ = some (.int .i64 qb))
    (first | exact sx | exact ⟨s0, s1, s2, s3, s4, s5, s6, s7, s8, s9⟩ | assumption | go_keep)
    (first
    | (go_at_call 20; (with_reducible (show Calls _ _ #[(Value.agg #[Value.int IntKind.i64 (ka), Value.slice (aa) (na) (ca), Value.int IntKind.i64 (ha), Value.int IntKind.i64 (pa), Value.int IntKind.i64 (qa)])] _ _)); have gg := hob; refine (to_res 0 w.heap.size ka ha pa qa _ aa na ca za (fa) hB.size (by omega)).mono ?_; rintro e w9 ⟨raa, rca, rfl, hoa, hca, hda, hb9⟩; have Qa := Qa.below hb9; have fa := fa.below hb9; have Qb := Qb.below hb9; have fb := fb.below hb9; have hob := hob.below hb9; have sx := ten Qa Qb; have hB := hB.trans (hb9.mono hB.size))
    | (go_at_call 20; (with_reducible (show Calls _ _ #[(Value.agg #[Value.int IntKind.i64 (kb), Value.slice (ab) (nb) (cb), Value.int IntKind.i64 (hb), Value.int IntKind.i64 (pb), Value.int IntKind.i64 (qb)])] _ _)); have gg := hoa; refine (to_res 0 w.heap.size kb hb pb qb _ ab nb cb zb (fb) hB.size (by omega)).mono ?_; rintro e w9 ⟨rab, rcb, rfl, hob, hcb, hdb, hb9⟩; have Qa := Qa.below hb9; have fa := fa.below hb9; have Qb := Qb.below hb9; have fb := fb.below hb9; have hoa := hoa.below hb9; have sx := ten Qa Qb; have hB := hB.trans (hb9.mono hB.size))
    | (go_at_call 20; (with_reducible (show Calls _ _ #[(Value.agg #[Value.int IntKind.i64 (ka), Value.slice (aa) (na) (ca), Value.int IntKind.i64 (ha), Value.int IntKind.i64 (pa), Value.int IntKind.i64 (qa)])] _ _)); (fail_if_success (have gg := hob)); refine (to_res 0 w.heap.size ka ha pa qa _ aa na ca za (fa.below ((Below.refl _ _).drew)) hB.size (by omega)).mono ?_; rintro e w9 ⟨raa, rca, rfl, hoa, hca, hda, hb9⟩; have Qa := Qa.below (((Below.refl _ _).drew).trans hb9); have fa := fa.below (((Below.refl _ _).drew).trans hb9); have Qb := Qb.below (((Below.refl _ _).drew).trans hb9); have fb := fb.below (((Below.refl _ _).drew).trans hb9); have sx := ten Qa Qb; have hB := hB.trans ((((Below.refl _ _).drew).trans hb9).mono hB.size))
    | (go_at_call 20; (with_reducible (show Calls _ _ #[(Value.agg #[Value.int IntKind.i64 (kb), Value.slice (ab) (nb) (cb), Value.int IntKind.i64 (hb), Value.int IntKind.i64 (pb), Value.int IntKind.i64 (qb)])] _ _)); (fail_if_success (have gg := hoa)); refine (to_res 0 w.heap.size kb hb pb qb _ ab nb cb zb (fb.below ((Below.refl _ _).drew)) hB.size (by omega)).mono ?_; rintro e w9 ⟨rab, rcb, rfl, hob, hcb, hdb, hb9⟩; have Qa := Qa.below (((Below.refl _ _).drew).trans hb9); have fa := fa.below (((Below.refl _ _).drew).trans hb9); have Qb := Qb.below (((Below.refl _ _).drew).trans hb9); have fb := fb.below (((Below.refl _ _).drew).trans hb9); have sx := ten Qa Qb; have hB := hB.trans ((((Below.refl _ _).drew).trans hb9).mono hB.size))
    | (go_at_call 27; refine (same_spec _ _ _ _ ka ha pa qa kb hb pb qb _ _ _ na _ nb _ za zb hoa.row hob.row (by omega) (by omega)).mono ?_; rintro e w9 ⟨rfl, hb9⟩; have Qa := Qa.below hb9; have fa := fa.below hb9; have Qb := Qb.below hb9; have fb := fb.below hb9; have sx := ten Qa Qb; have hB := hB.trans (hb9.mono hB.size))
    )
  all_goals
    have hB9 := hB
    clear s0 s1 s2 s3 s4 s5 s6 s7 s8 s9 sx hB
    obtain ⟨qa_10_0, qa_10_1, qa_10_2, qa_10_3, qa_10_4⟩ := Qa.cells
    go_wp2_with fail
    go_at_call 20
    refine (to_res 0 w.heap.size ka ha pa qa _ aa na ca za fa hB9.size (by omega)).mono ?_
    rintro e w10 ⟨ra10, rc10, rfl, ho10, hc10, hd10, hb10⟩
    clear qa_10_0 qa_10_1 qa_10_2 qa_10_3 qa_10_4
    have hs10 := hb10.size
    have Qa := Qa.below hb10
    have fa := fa.below hb10
    have Qb := Qb.below hb10
    have fb := fb.below hb10
    have hB10 := hB9.trans (hb10.mono hB9.size)
    have gax : Own .i64 w9.heap.size w10.heap.size w10 ra10 na za := ho10
    have hA10 : Below w10.heap.size w10 (w10.alloc (.cells #[.int .i64 ka, .slice ra10 na rc10, .int .i64 ha, .int .i64 pa, .int .i64 qa] 28)) := (Below.refl _ _).alloc (Nat.le_refl _) _
    have Qa := Qa.below hA10
    have fa := fa.below hA10
    have Qb := Qb.below hA10
    have fb := fb.below hA10
    have gax := gax.below hA10
    have Qax := Quint.new 28 (.int .i64 ka) (.slice ra10 na rc10) (.int .i64 ha) (.int .i64 pa) (.int .i64 qa) w10
    have hBy := hB10.trans (hA10.mono hB10.size)
    clear hB10; have hB10 := hBy; clear hBy
    have hz10 := hA10.size
    obtain ⟨qb_11_0, qb_11_1, qb_11_2, qb_11_3, qb_11_4⟩ := Qb.cells
    go_wp2_with fail
    go_at_call 20
    refine (to_res 0 w.heap.size kb hb pb qb _ ab nb cb zb fb hB10.size (by omega)).mono ?_
    rintro e w11 ⟨ra11, rc11, rfl, ho11, hc11, hd11, hb11⟩
    clear qb_11_0 qb_11_1 qb_11_2 qb_11_3 qb_11_4
    have hs11 := hb11.size
    have Qa := Qa.below hb11
    have fa := fa.below hb11
    have Qb := Qb.below hb11
    have fb := fb.below hb11
    have gax := gax.below hb11
    have Qax := Qax.below hb11
    have hB11 := hB10.trans (hb11.mono hB10.size)
    have gbx : Own .i64 (w10.alloc (.cells #[.int .i64 ka, .slice ra10 na rc10, .int .i64 ha, .int .i64 pa, .int .i64 qa] 28)).heap.size w11.heap.size w11 ra11 nb zb := ho11
    have hA11 : Below w11.heap.size w11 (w11.alloc (.cells #[.int .i64 kb, .slice ra11 nb rc11, .int .i64 hb, .int .i64 pb, .int .i64 qb] 28)) := (Below.refl _ _).alloc (Nat.le_refl _) _
    have Qa := Qa.below hA11
    have fa := fa.below hA11
    have Qb := Qb.below hA11
    have fb := fb.below hA11
    have gax := gax.below hA11
    have Qax := Qax.below hA11
    have gbx := gbx.below hA11
    have Qbx := Quint.new 28 (.int .i64 kb) (.slice ra11 nb rc11) (.int .i64 hb) (.int .i64 pb) (.int .i64 qb) w11
    have hBy := hB11.trans (hA11.mono hB11.size)
    clear hB11; have hB11 := hBy; clear hBy
    have hz11 := hA11.size
    obtain ⟨qax_12_0, qax_12_1, qax_12_2, qax_12_3, qax_12_4⟩ := Qax.cells
    obtain ⟨qbx_12_0, qbx_12_1, qbx_12_2, qbx_12_3, qbx_12_4⟩ := Qbx.cells
    go_wp2_with fail
    go_at_call 16
    refine (alike_impl _ _ _ _ ka ha pa qa kb hb pb qb _ _ _ na _ nb _ za zb gax.row gbx.row (by omega) (by omega) wka wha wpa wqa wkb whb wpb wqb).mono ?_
    rintro e w12 ⟨rfl, hb12⟩
    clear qax_12_0 qax_12_1 qax_12_2 qax_12_3 qax_12_4 qbx_12_0 qbx_12_1 qbx_12_2 qbx_12_3 qbx_12_4
    have hs12 := hb12.size
    have Qa := Qa.below hb12
    have fa := fa.below hb12
    have Qb := Qb.below hb12
    have fb := fb.below hb12
    have gax := gax.below hb12
    have Qax := Qax.below hb12
    have gbx := gbx.below hb12
    have Qbx := Qbx.below hb12
    have hB12 := hB11.trans (hb12.mono hB11.size)
    have hB := hB12
    have hs := hB.size
    have s3 := ten Qax Qa
    obtain ⟨s12_0, s12_1, s12_2, s12_3, s12_4, s12_5, s12_6, s12_7, s12_8, s12_9⟩ := s3
    go_wp2_with fail
    go_region_held3 (fun w' => w'.cell? ⟨w10.heap.size, 0, none⟩ = some (.int .i64 ka) ∧ w'.cell? ⟨w10.heap.size, 1, none⟩ = some (.slice ra10 na rc10) ∧ w'.cell? ⟨w10.heap.size, 2, none⟩ = some (.int .i64 ha) ∧ w'.cell? ⟨w10.heap.size, 3, none⟩ = some (.int .i64 pa) ∧ w'.cell? ⟨w10.heap.size, 4, none⟩ = some (.int .i64 qa) ∧ w'.cell? ⟨w.heap.size, 0, none⟩ = some (.int .i64 ka) ∧ w'.cell? ⟨w.heap.size, 1, none⟩ = some (.slice aa na ca) ∧ w'.cell? ⟨w.heap.size, 2, none⟩ = some (.int .i64 ha) ∧ w'.cell? ⟨w.heap.size, 3, none⟩ = some (.int .i64 pa) ∧ w'.cell? ⟨w.heap.size, 4, none⟩ = some (.int .i64 qa))
      (first | exact s3 | exact ⟨s12_0, s12_1, s12_2, s12_3, s12_4, s12_5, s12_6, s12_7, s12_8, s12_9⟩ | assumption | go_keep)
      (first
      | (go_at_call 20; refine (to_res 0 w.heap.size ka ha pa qa _ aa na ca za (fa.below ((Below.refl _ _).drew)) hB.size (by omega)).mono ?_; rintro e u1 ⟨ra9, rc9, rfl, ho9, hc9, hd9, hb9⟩; have Qa : Quint 40 (w.heap.size) (.int .i64 ka) (.slice aa na ca) (.int .i64 ha) (.int .i64 pa) (.int .i64 qa) u1 := (by first | exact Qa.below hb9 | exact Qa.below (((Below.refl _ _).drew).trans hb9)); have fa : Row .i64 0 w.heap.size u1 aa na za := (by first | exact fa.below hb9 | exact fa.below (((Below.refl _ _).drew).trans hb9)); have Qb : Quint 40 (w.heap.size + 1) (.int .i64 kb) (.slice ab nb cb) (.int .i64 hb) (.int .i64 pb) (.int .i64 qb) u1 := (by first | exact Qb.below hb9 | exact Qb.below (((Below.refl _ _).drew).trans hb9)); have fb : Row .i64 0 w.heap.size u1 ab nb zb := (by first | exact fb.below hb9 | exact fb.below (((Below.refl _ _).drew).trans hb9)); have gax : Own .i64 w9.heap.size w10.heap.size u1 ra10 na za := (by first | exact gax.below hb9 | exact gax.below (((Below.refl _ _).drew).trans hb9)); have Qax : Quint 28 w10.heap.size (.int .i64 ka) (.slice ra10 na rc10) (.int .i64 ha) (.int .i64 pa) (.int .i64 qa) u1 := (by first | exact Qax.below hb9 | exact Qax.below (((Below.refl _ _).drew).trans hb9)); have gbx : Own .i64 (w10.alloc (.cells #[.int .i64 ka, .slice ra10 na rc10, .int .i64 ha, .int .i64 pa, .int .i64 qa] 28)).heap.size w11.heap.size u1 ra11 nb zb := (by first | exact gbx.below hb9 | exact gbx.below (((Below.refl _ _).drew).trans hb9)); have Qbx : Quint 28 w11.heap.size (.int .i64 kb) (.slice ra11 nb rc11) (.int .i64 hb) (.int .i64 pb) (.int .i64 qb) u1 := (by first | exact Qbx.below hb9 | exact Qbx.below (((Below.refl _ _).drew).trans hb9)); have s3 := ten Qax Qa; have hB : Below w.heap.size w u1 := (by first | exact hB.trans (hb9.mono hB.size) | exact hB.drew.trans (hb9.mono hB.size)))
      | (go_at_call 21; refine (eq_res _ _ _ _ ka ha pa qa _ _ _ na _ _ za gax.row ho9.row (by omega)).mono ?_; rintro e u1 ⟨rfl, hb9⟩; have Qa : Quint 40 (w.heap.size) (.int .i64 ka) (.slice aa na ca) (.int .i64 ha) (.int .i64 pa) (.int .i64 qa) u1 := (by first | exact Qa.below hb9 | exact Qa.below (((Below.refl _ _).drew).trans hb9)); have fa : Row .i64 0 w.heap.size u1 aa na za := (by first | exact fa.below hb9 | exact fa.below (((Below.refl _ _).drew).trans hb9)); have Qb : Quint 40 (w.heap.size + 1) (.int .i64 kb) (.slice ab nb cb) (.int .i64 hb) (.int .i64 pb) (.int .i64 qb) u1 := (by first | exact Qb.below hb9 | exact Qb.below (((Below.refl _ _).drew).trans hb9)); have fb : Row .i64 0 w.heap.size u1 ab nb zb := (by first | exact fb.below hb9 | exact fb.below (((Below.refl _ _).drew).trans hb9)); have gax : Own .i64 w9.heap.size w10.heap.size u1 ra10 na za := (by first | exact gax.below hb9 | exact gax.below (((Below.refl _ _).drew).trans hb9)); have Qax : Quint 28 w10.heap.size (.int .i64 ka) (.slice ra10 na rc10) (.int .i64 ha) (.int .i64 pa) (.int .i64 qa) u1 := (by first | exact Qax.below hb9 | exact Qax.below (((Below.refl _ _).drew).trans hb9)); have gbx : Own .i64 (w10.alloc (.cells #[.int .i64 ka, .slice ra10 na rc10, .int .i64 ha, .int .i64 pa, .int .i64 qa] 28)).heap.size w11.heap.size u1 ra11 nb zb := (by first | exact gbx.below hb9 | exact gbx.below (((Below.refl _ _).drew).trans hb9)); have Qbx : Quint 28 w11.heap.size (.int .i64 kb) (.slice ra11 nb rc11) (.int .i64 hb) (.int .i64 pb) (.int .i64 qb) u1 := (by first | exact Qbx.below hb9 | exact Qbx.below (((Below.refl _ _).drew).trans hb9)); have s3 := ten Qax Qa; have hB : Below w.heap.size w u1 := (by first | exact hB.trans (hb9.mono hB.size) | exact hB.drew.trans (hb9.mono hB.size)))
      )
    all_goals
      have hB100 := hB; clear hB
      have hB := hB100
      have hs := hB.size
      have s3 := ten Qbx Qb
      obtain ⟨s100_0, s100_1, s100_2, s100_3, s100_4, s100_5, s100_6, s100_7, s100_8, s100_9⟩ := s3
      go_wp2_with fail
      go_region_held3 (fun w' => w'.cell? ⟨w11.heap.size, 0, none⟩ = some (.int .i64 kb) ∧ w'.cell? ⟨w11.heap.size, 1, none⟩ = some (.slice ra11 nb rc11) ∧ w'.cell? ⟨w11.heap.size, 2, none⟩ = some (.int .i64 hb) ∧ w'.cell? ⟨w11.heap.size, 3, none⟩ = some (.int .i64 pb) ∧ w'.cell? ⟨w11.heap.size, 4, none⟩ = some (.int .i64 qb) ∧ w'.cell? ⟨w.heap.size + 1, 0, none⟩ = some (.int .i64 kb) ∧ w'.cell? ⟨w.heap.size + 1, 1, none⟩ = some (.slice ab nb cb) ∧ w'.cell? ⟨w.heap.size + 1, 2, none⟩ = some (.int .i64 hb) ∧ w'.cell? ⟨w.heap.size + 1, 3, none⟩ = some (.int .i64 pb) ∧ w'.cell? ⟨w.heap.size + 1, 4, none⟩ = some (.int .i64 qb))
        (first | exact s3 | exact ⟨s100_0, s100_1, s100_2, s100_3, s100_4, s100_5, s100_6, s100_7, s100_8, s100_9⟩ | assumption | go_keep)
        (first
        | (go_at_call 20; refine (to_res 0 w.heap.size kb hb pb qb _ ab nb cb zb (fb.below ((Below.refl _ _).drew)) hB.size (by omega)).mono ?_; rintro e u2 ⟨ra9, rc9, rfl, ho9, hc9, hd9, hb9⟩; have Qa : Quint 40 (w.heap.size) (.int .i64 ka) (.slice aa na ca) (.int .i64 ha) (.int .i64 pa) (.int .i64 qa) u2 := (by first | exact Qa.below hb9 | exact Qa.below (((Below.refl _ _).drew).trans hb9)); have fa : Row .i64 0 w.heap.size u2 aa na za := (by first | exact fa.below hb9 | exact fa.below (((Below.refl _ _).drew).trans hb9)); have Qb : Quint 40 (w.heap.size + 1) (.int .i64 kb) (.slice ab nb cb) (.int .i64 hb) (.int .i64 pb) (.int .i64 qb) u2 := (by first | exact Qb.below hb9 | exact Qb.below (((Below.refl _ _).drew).trans hb9)); have fb : Row .i64 0 w.heap.size u2 ab nb zb := (by first | exact fb.below hb9 | exact fb.below (((Below.refl _ _).drew).trans hb9)); have gax : Own .i64 w9.heap.size w10.heap.size u2 ra10 na za := (by first | exact gax.below hb9 | exact gax.below (((Below.refl _ _).drew).trans hb9)); have Qax : Quint 28 w10.heap.size (.int .i64 ka) (.slice ra10 na rc10) (.int .i64 ha) (.int .i64 pa) (.int .i64 qa) u2 := (by first | exact Qax.below hb9 | exact Qax.below (((Below.refl _ _).drew).trans hb9)); have gbx : Own .i64 (w10.alloc (.cells #[.int .i64 ka, .slice ra10 na rc10, .int .i64 ha, .int .i64 pa, .int .i64 qa] 28)).heap.size w11.heap.size u2 ra11 nb zb := (by first | exact gbx.below hb9 | exact gbx.below (((Below.refl _ _).drew).trans hb9)); have Qbx : Quint 28 w11.heap.size (.int .i64 kb) (.slice ra11 nb rc11) (.int .i64 hb) (.int .i64 pb) (.int .i64 qb) u2 := (by first | exact Qbx.below hb9 | exact Qbx.below (((Below.refl _ _).drew).trans hb9)); have s3 := ten Qbx Qb; have hB : Below w.heap.size w u2 := (by first | exact hB.trans (hb9.mono hB.size) | exact hB.drew.trans (hb9.mono hB.size)))
        | (go_at_call 21; refine (eq_res _ _ _ _ kb hb pb qb _ _ _ nb _ _ zb gbx.row ho9.row (by omega)).mono ?_; rintro e u2 ⟨rfl, hb9⟩; have Qa : Quint 40 (w.heap.size) (.int .i64 ka) (.slice aa na ca) (.int .i64 ha) (.int .i64 pa) (.int .i64 qa) u2 := (by first | exact Qa.below hb9 | exact Qa.below (((Below.refl _ _).drew).trans hb9)); have fa : Row .i64 0 w.heap.size u2 aa na za := (by first | exact fa.below hb9 | exact fa.below (((Below.refl _ _).drew).trans hb9)); have Qb : Quint 40 (w.heap.size + 1) (.int .i64 kb) (.slice ab nb cb) (.int .i64 hb) (.int .i64 pb) (.int .i64 qb) u2 := (by first | exact Qb.below hb9 | exact Qb.below (((Below.refl _ _).drew).trans hb9)); have fb : Row .i64 0 w.heap.size u2 ab nb zb := (by first | exact fb.below hb9 | exact fb.below (((Below.refl _ _).drew).trans hb9)); have gax : Own .i64 w9.heap.size w10.heap.size u2 ra10 na za := (by first | exact gax.below hb9 | exact gax.below (((Below.refl _ _).drew).trans hb9)); have Qax : Quint 28 w10.heap.size (.int .i64 ka) (.slice ra10 na rc10) (.int .i64 ha) (.int .i64 pa) (.int .i64 qa) u2 := (by first | exact Qax.below hb9 | exact Qax.below (((Below.refl _ _).drew).trans hb9)); have gbx : Own .i64 (w10.alloc (.cells #[.int .i64 ka, .slice ra10 na rc10, .int .i64 ha, .int .i64 pa, .int .i64 qa] 28)).heap.size w11.heap.size u2 ra11 nb zb := (by first | exact gbx.below hb9 | exact gbx.below (((Below.refl _ _).drew).trans hb9)); have Qbx : Quint 28 w11.heap.size (.int .i64 kb) (.slice ra11 nb rc11) (.int .i64 hb) (.int .i64 pb) (.int .i64 qb) u2 := (by first | exact Qbx.below hb9 | exact Qbx.below (((Below.refl _ _).drew).trans hb9)); have s3 := ten Qbx Qb; have hB : Below w.heap.size w u2 := (by first | exact hB.trans (hb9.mono hB.size) | exact hB.drew.trans (hb9.mono hB.size)))
        )
      all_goals
        have hB101 := hB; clear hB
        go_wp2
        go_ret
        exact ⟨rfl, hB101⟩
end Go.Proofs.Ytofhopiikbbakaa.FnExactEqualResourcesW
