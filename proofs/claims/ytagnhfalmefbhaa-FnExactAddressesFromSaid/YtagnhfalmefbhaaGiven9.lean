/-
  What a call of FollowAt hands back.
  Conditions: none; nothing of the program stands here.
-/
import Derived.Test.YtagnhfalmefbhaaPasted
import Derived.Test.YtagnhfalmefbhaaFollowMath
namespace Go.Proofs.Ytagnhfalmefbhaa.Sites
open Go Go.RowKit Go.Proofs.Ytagnhfalmefbhaa.Mem Go.Proofs.Ytagnhfalmefbhaa.Gen Go.Proofs.Ytagnhfalmefbhaa.Adr Go.Proofs.Ytagnhfalmefbhaa.Res

theorem ans_wf {lo hi : Nat} {w : World} {L : Option Addr} {c : Nat} {l : List TVersion} (h : Lies lo hi w (dVersion l) (.slice L l.length c)) (A : TAddress) (t : Int) : WfA (answer l A t).f2 := by
  rcases answerTo_from l A t l.length with e | ⟨i, hi', _, e, _⟩
  · unfold answer; rw [e]; exact ⟨by decide, by decide, by decide⟩
  · obtain ⟨_, _, _, _, _, _, _, _, _, _, _, _, _, _, w6, w7, w8, _⟩ := at_Version h hi'
    unfold answer; rw [e]; exact ⟨w6, w7, w8⟩
/-- What a call of FollowAt hands back. -/
def Handed (w : World) (R : List TAddress × TResource) (e : Ending) (w' : World) : Prop :=
  ∃ (x1 : Option Addr) (y1 : Nat) (S1 : Nat → Prop) (xQ : Option Addr) (yQ : Nat) (SQ : Nat → Prop), e = .returned (.tuple #[.agg #[.int .i64 R.2.f0, .slice x1 R.2.f1.length y1, .int .i64 R.2.f2.f0, .int .i64 R.2.f2.f1, .int .i64 R.2.f2.f2], .slice xQ R.1.length yQ]) ∧ Owns w' (ints R.2.f1) (.slice x1 R.2.f1.length y1) S1 ∧ Owns w' (dAddress R.1) (.slice xQ R.1.length yQ) SQ ∧ (∀ t, S1 t → w.heap.size ≤ t ∧ t < w'.heap.size) ∧ (∀ t, SQ t → w.heap.size ≤ t ∧ t < w'.heap.size) ∧ (∀ t, S1 t → ¬ SQ t) ∧ Below w.heap.size w w'
def lenOf (v : Value) : Nat := match v with | .slice _ n _ => n | _ => 0

theorem room_adrs (Q : List TAddress) : room (dAddress Q) = Q.length := by
  have h : ∀ n, sumTo (fun i => sumTo (fun x => room ((Q.getD i nAddress).c x)) 3) n = 0 := by
    intro n
    induction n with
    | zero => rfl
    | succ n ih =>
      have h1 := room_Address (Q.getD n nAddress)
      show sumTo (fun i => sumTo (fun x => room ((Q.getD i nAddress).c x)) 3) n + sumTo (fun x => room ((Q.getD n nAddress).c x)) 3 = 0
      rw [ih, h1]
  have h2 := h Q.length
  have e : room (dAddress Q) = Q.length + sumTo (fun i => sumTo (fun x => room ((Q.getD i nAddress).c x)) 3) Q.length := rfl
  omega
end Go.Proofs.Ytagnhfalmefbhaa.Sites
