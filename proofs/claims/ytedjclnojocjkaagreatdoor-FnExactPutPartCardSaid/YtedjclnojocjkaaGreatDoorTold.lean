/-
  What a call hands back, as the exact laws read it.
  Conditions: none.
-/
import Derived.Test.YtedjclnojocjkaaGreatDoorTakeS
namespace Go.Proofs.YtedjclnojocjkaaGreatDoor.Parts
open Go Go.RowKit Go.Proofs.YtedjclnojocjkaaGreatDoor.Mem

def PTold (lo : Nat) (R : List Prt) (b : Bool) (w : World) (e : Ending) (w' : World) : Prop :=
  ∃ a c, e = .returned (.tuple #[.slice a R.length c, .bool b]) ∧ POwn lo w'.heap.size w' a R.length R ∧ R.length ≤ c ∧ c ≤ maxLen ∧ Below lo w w'
theorem PAns.told {lo : Nat} {R : List Prt} {b : Bool} {w w' : World} {e : Ending} (h : PAns lo R b w e w') : PTold lo R b w e w' := by
  obtain ⟨v, G, rfl, hv, hb⟩ := h
  obtain ⟨a, c, rfl, h1, h2, h3⟩ := hv.shape
  exact ⟨a, c, rfl, h3, h1, h2, hb⟩
theorem takeL_room (d : Int) (l : List Prt) : room (takeL d l) ≤ room l := by
  unfold takeL
  split
  · exact td_room d l
  · exact Nat.le_refl _
end Go.Proofs.YtedjclnojocjkaaGreatDoor.Parts
