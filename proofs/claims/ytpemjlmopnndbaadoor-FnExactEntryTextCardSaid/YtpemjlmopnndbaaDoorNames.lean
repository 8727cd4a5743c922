/-
  OpName of the program: the name of a kind, from a list of names in one text.
  Conditions: none.
-/
import Derived.Test.YtpemjlmopnndbaaDoorScriptMath
import Derived.Test.YtpemjlmopnndbaaDoorRange
import Derived.Test.YtpemjlmopnndbaaDoorMemV
import Derived.Test.YtpemjlmopnndbaaDoorShelfFields
namespace Go.Proofs.YtpemjlmopnndbaaDoor.Scripts
open Go Go.RowKit Go.Lib Go.Proofs.YtpemjlmopnndbaaDoor.Mem Go.Proofs.YtpemjlmopnndbaaDoor.Range

def gap (x : Nat) : Bool := x == 32
def opNames : ByteArray := ⟨#[102, 101, 116, 99, 104, 32, 99, 108, 111, 99, 107, 32, 114, 97, 110, 100, 111, 109, 32, 105, 110, 112, 117, 116, 32, 97, 100, 100, 32, 112, 117, 116, 32, 115, 107, 105, 112, 32, 103, 101, 116, 32, 107, 101, 101, 112]⟩
theorem fields : Lib.goFieldsP gap opNames = [tFetch, tClock, tRandom, tInput, tAdd, tPut, tSkip, tGet, tKeep] := by decide +kernel

set_option maxRecDepth 100000 in
theorem gap_pays (w : World) : PredGrows Tryd.prog 21 #[] gap w := by
  intro W x hx hb
  show Calls Tryd.prog 21 #[.int .i32 (x : Int)] W _
  by_cases h : x = 32
  · subst h
    go_enter Tryd.func21, Tryd.ntmps21
    go_wp2
    go_ret
    exact ⟨rfl, Below.refl _ _⟩
  · have h1 : ((x : Int) == 32) = false := by simp; omega
    have h2 : gap x = false := by simp [gap, h]
    rw [h2]
    go_enter Tryd.func21, Tryd.ntmps21
    go_wp2
    go_ret
    exact ⟨rfl, Below.refl _ _⟩

set_option maxHeartbeats 1600000 in
set_option maxRecDepth 100000 in
theorem named (k : Int) (w : World) :
    Calls Tryd.prog 17 #[.int .i64 k, .string opNames] w fun e w' => e = .returned (.string (nameB k)) ∧ Below w.heap.size w w' := by
  have cF : Calls Tryd.prog 20 #[.string opNames, .func (.func 21) #[] #[]] w _ := Tryd.strings_FieldsFunc_grows 21 #[] (enters_of Tryd.func21 (by kernel_rfl) rfl) gap opNames w (by decide) (gap_pays w)
  rw [fields] at cF
  simp only [List.length_cons, List.length_nil, Nat.zero_add, Nat.reduceAdd, List.map_cons, List.map_nil] at cF
  by_cases hk : 1 ≤ k ∧ k ≤ 9
  rotate_left
  · have hI := fun W => in_no k 1 9 W (by omega)
    rw [nameB_none (by omega)]
    unfold opNames at cF ⊢
    go_enter Tryd.func17, Tryd.ntmps17
    go_wp2_with fail
    go_at_call 20
    refine cF.mono ?_
    rintro e w1 ⟨g, rfl, hg, hown, hb1⟩
    clear cF hown
    go_wp2_with fail
    go_at_call 18
    refine (hI _).mono ?_
    rintro e w2 ⟨rfl, rfl⟩
    go_wp2
    go_ret
    exact ⟨rfl, hb1⟩
  have hI := fun W => in_yes k 1 9 W hk.1 hk.2
  unfold opNames at cF ⊢
  go_enter Tryd.func17, Tryd.ntmps17
  go_wp2_with fail
  go_at_call 20
  refine cF.mono ?_
  rintro e w1 ⟨g, rfl, hg, hown, hb1⟩
  have c0 := hown.cellAt 0 (by decide)
  have c1 := hown.cellAt 1 (by decide)
  have c2 := hown.cellAt 2 (by decide)
  have c3 := hown.cellAt 3 (by decide)
  have c4 := hown.cellAt 4 (by decide)
  have c5 := hown.cellAt 5 (by decide)
  have c6 := hown.cellAt 6 (by decide)
  have c7 := hown.cellAt 7 (by decide)
  have c8 := hown.cellAt 8 (by decide)
  simp only [List.getElem?_cons_zero, List.getElem?_cons_succ] at c0 c1 c2 c3 c4 c5 c6 c7 c8
  clear cF hown
  go_wp2_with fail
  go_at_call 18
  refine (hI _).mono ?_
  rintro e w2 ⟨rfl, rfl⟩
  rcases kinds k hk.1 hk.2
  all_goals
    go_wp2
    go_ret
    exact ⟨rfl, hb1⟩

set_option maxRecDepth 100000 in
theorem name_impl (k : Int) (w : World) :
    Calls Tryd.prog 12 #[.int .i64 k] w fun e w' => e = .returned (.string (nameB k)) ∧ Below w.heap.size w w' := by
  have hn := named k w
  unfold opNames at hn
  go_enter Tryd.func12, Tryd.ntmps12
  go_wp2_with fail
  go_at_call 17
  refine hn.mono ?_
  rintro e w1 ⟨rfl, hb1⟩
  go_wp2
  go_ret
  exact ⟨rfl, hb1⟩
end Go.Proofs.YtpemjlmopnndbaaDoor.Scripts
