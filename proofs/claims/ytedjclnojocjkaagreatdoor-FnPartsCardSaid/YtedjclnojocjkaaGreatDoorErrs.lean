/-
  errors.Is of nil, and of a sentinel against itself.
  Conditions: none.
-/
import Derived.Test.YtedjclnojocjkaaGreatDoorProg
import Derived.WalkKit
import Derived.Below
import Derived.LaidEql
import Derived.Stop.Asserts
import Derived.RowKitTokens
namespace Go.Proofs.YtedjclnojocjkaaGreatDoor.Errs
open Go Go.RowKit Go.Extern.Stop Go.Stop Go.Extern

/-- What a sentinel's variable holds. -/
def sent (a : Addr) : Value := .iface 166 (.pointer (some a))

theorem type_of (v : Value) (w : World) : (Extern.ReflectliteType.typeOf #[.iface 166 v]).run Tryz.prog w = .ok (.iface 118 (.agg #[.pointer (some ⟨2, 166, none⟩)])) w := by kernel_rfl
theorem comparable_yes (w : World) : ((Extern.ReflectliteType.method fun t => do Go.Extern.Rtype.noPackHeld "Comparable" t; (fun a => Value.bool a.comparable) <$> typeInfo t) #[.agg #[.pointer (some ⟨2, 166, none⟩)]]).run Tryz.prog w = .ok (.bool true) w := by kernel_rfl
theorem method_comparable (v : Value) (w : World) : (Go.method 303 118 v "Comparable").run Tryz.prog w = .ok (144, v) w := by kernel_rfl
theorem comp : (Tryz.prog.info? 166).map (·.comparable) = some true := by kernel_rfl
theorem size1 : (Tryz.prog.info? 191).map (·.size) = some 1 := by kernel_rfl

set_option maxRecDepth 100000 in
/-- errors.Is(x, x), x a sentinel. -/
theorem is_same (a : Addr) (w : World) :
    Calls Tryz.prog 50 #[sent a, sent a] w fun e w' => e = .returned (.bool true) ∧ w' = w := by
  unfold sent
  obtain ⟨i, hi, hcmp⟩ := Option.map_eq_some_iff.1 comp
  obtain ⟨j, hj, hjs⟩ := Option.map_eq_some_iff.1 size1
  have h8 := @run_callFunc_extern Tryz.prog 80 _ Extern.ReflectliteType.typeOf Tryz.func80 (by kernel_rfl) (by kernel_rfl) (by kernel_rfl) (by kernel_rfl)
  have h32 := @run_callFunc_extern Tryz.prog 144 _ (Extern.ReflectliteType.method fun t => do Go.Extern.Rtype.noPackHeld "Comparable" t; pure (.bool (← typeInfo t).comparable)) Tryz.func144 (by kernel_rfl) (by kernel_rfl) (by kernel_rfl) (by kernel_rfl)
  have tT := type_of
  have cT := comparable_yes
  have mR := method_comparable
  have heq := run_eql_iface_ptr_same (P := Tryz.prog) w a Tryz.underlying68 Tryz.underlying166 hi hcmp hj
  go_enter Tryz.func50, Tryz.ntmps50
  go_wp2
  refine wp_loop_rounds 1 ?_
  rw [rounds_succ]
  go_wp2
  go_ret
  exact ⟨rfl, rfl⟩

/-- errors.Is(nil, x). -/
theorem is_nil (b : Addr) (w : World) :
    Calls Tryz.prog 50 #[.nilIface, sent b] w fun e w' => e = .returned (.bool false) ∧ w' = w := by
  unfold sent
  have hn := run_eql_iface_nil_left (P := Tryz.prog) w 166 (.pointer (some b)) Tryz.underlying68
  go_enter Tryz.func50, Tryz.ntmps50
  go_wp2
  go_ret
  exact ⟨rfl, rfl⟩
end Go.Proofs.YtedjclnojocjkaaGreatDoor.Errs
