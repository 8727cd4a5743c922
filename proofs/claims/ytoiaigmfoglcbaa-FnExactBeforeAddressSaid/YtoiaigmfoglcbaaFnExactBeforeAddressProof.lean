/-
  For every argument that can be read, the law FnExactBeforeAddress returns true and leaves its arguments as they were.
  Conditions: none.
-/
import Derived.Test.YtoiaigmfoglcbaaRows
import Derived.Test.YtoiaigmfoglcbaaFnExactBeforeAddressWalk
import Derived.Test.YtoiaigmfoglcbaaFrameAdr
import Derived.WalkKit
import Derived.ProofKit
import Derived.OpenShut
import Derived.ChangeOld
import Derived.Below
import Derived.ShutString
namespace Go.Proofs.Ytoiaigmfoglcbaa.fnExactBeforeAddress
open Go.ChangeShapes Go.WideShapes Go.ChangeAt Go.RowKit
set_option linter.unusedVariables false

theorem own : ownKnob Try.prog.godebug = none := by kernel_rfl
/-! The row. -/
set_option maxRecDepth 100000 in
theorem lifted (os : Os) (started : os.Started) (H : Type) (enc : TypeId × Value → H) :
    ReturnsInHanded {} Try.checked os 6 .any (Rows.fnExactBeforeAddressSpec.pre6 enc Try.prog Try.f6 Rows.fnExactBeforeAddressRow.domain false) (Rows.fnExactBeforeAddressSpec.post enc Try.prog Try.f6 false true false false) := by
  refine returnsInHanded_of_change (C := Try.checked) own started (by kernel_rfl) Try.func6
    (ChangeSpec.witness6 (enc := enc) (C := Try.checked) false ⟨#[], #[.agg #[.int .i64 0, .int .i64 0, .int .i64 0], .agg #[.int .i64 0, .int .i64 0, .int .i64 0]], []⟩ 8 (by kernel_rfl) (by kernel_rfl) (by kernel_rfl) (by kernel_rfl)) ?_
  intro W base args ds gs before hval0 hW hcnd _
  have hval : ∀ (j : Nat) t v, Try.f6.params[j]? = some t → args[j]? = some v → Value.okWide Try.prog W .any base t v := hval0
  have hW' := hW
  obtain ⟨p, q, hA0, hV, rfl, hfz, hnd⟩ := hW
  have hA : DataW.TrodAll enc Try.prog W 0 (fun _ => true) true Try.f6.params.toList args.toList ds p := hA0
  rw [Try.params6] at hA hval
  obtain ⟨v0, vs0, d0, ds0, p0, q0, hargs, rfl, rfl, h0, r0⟩ := trodAll_cons hA
  obtain ⟨v1, vs1, d1, ds1, p1, q1, rfl, rfl, rfl, h1, r1⟩ := trodAll_cons r0
  obtain ⟨rfl, rfl, rfl⟩ := trodAll_nil r1
  obtain rfl : args = #[v0, v1] := by cases args; simp_all
  obtain ⟨rfl, rfl⟩ := trodVars_none hV
  obtain ⟨a0, b0, c0, rfl, rfl, rfl, wa0, wb0, wc0⟩ := FrameAdr.open_addr (hval 0 23 v0 rfl rfl) h0
  obtain ⟨a1, b1, c1, rfl, rfl, rfl, wa1, wb1, wc1⟩ := FrameAdr.open_addr (hval 1 23 v1 rfl rfl) h1
  clear hA0 hval0
  simp only [List.append_nil] at hW'
  obtain ⟨la0, ua0⟩ := bounds_i64 wa0
  obtain ⟨lb0, ub0⟩ := bounds_i64 wb0
  obtain ⟨lc0, uc0⟩ := bounds_i64 wc0
  obtain ⟨la1, ua1⟩ := bounds_i64 wa1
  obtain ⟨lb1, ub1⟩ := bounds_i64 wb1
  obtain ⟨lc1, uc1⟩ := bounds_i64 wc1
  refine (FnExactBeforeAddressW.law_walk a0 b0 c0 a1 b1 c1 W).mono fun e W' ⟨he, hb⟩ => ?_
  subst he
  refine ⟨_, rfl, _, _, _, [], [], [], hW', ?_, ?_, rfl, hb.frame _, fun h => by cases h⟩
  · exact trodAll_cons_mk (shut_bool Try.underlying4 _) trodAll_mk0
  · exact (trodAll_cons_mk (FrameAdr.shut_addr wa0 wb0 wc0) (trodAll_cons_mk (FrameAdr.shut_addr wa1 wb1 wc1) trodAll_mk0))

theorem over : Rows.fnExactBeforeAddressRow.holds Try.pinned (OpenSpec.ofChange Rows.fnExactBeforeAddressSpec) :=
  OpenClaim.holds_of_wide 6 Try.f6 rfl rfl rfl rfl rfl rfl rfl ⟨rfl, rfl, rfl, rfl, rfl⟩ rfl rfl rfl rfl rfl (by kernel_rfl) Try.func6 (by kernel_rfl)
    (of_decide_eq_true (by kernel_rfl)) (by unfold Func.isWrapper; first | (rw [if_pos (by decide +kernel)]; kernel_rfl) | (rw [if_neg (by decide +kernel)]; exact ⟨rfl, rfl⟩))
    (fun os started H enc _ => lifted os started H enc)

/-- The statement. -/
theorem proved : Rows.FnExactBeforeAddressSaid :=
  over
#print axioms proved
end Go.Proofs.Ytoiaigmfoglcbaa.fnExactBeforeAddress
