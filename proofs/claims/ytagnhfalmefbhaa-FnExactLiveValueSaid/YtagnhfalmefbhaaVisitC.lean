/-
  What the program's functions of visits do: the forms of their contracts.
  Conditions: none; nothing is proved here.
-/
import Derived.Test.YtagnhfalmefbhaaVisitS
namespace Go.Proofs.Ytagnhfalmefbhaa.Visits
open Go Go.RowKit Go.Proofs.Ytagnhfalmefbhaa.Mem Go.Proofs.Ytagnhfalmefbhaa.Gen Go.Proofs.Ytagnhfalmefbhaa.Res Go.Proofs.Ytagnhfalmefbhaa.Sites

structure ImplV : Prop where
  visit : ∀ (P : TVisit) (w : World) (a0 : Option Addr) (c0 : Nat) (a3 : Option Addr) (c3 : Nat), VSt w P a0 c0 a3 c3 → room (dVersion P.f0) ≤ 1048576 → P.f3.length ≤ 1048576 → (Lit.int .i64 P.f1).wf = true → (Lit.int .i64 P.f2).wf = true → Calls Try.prog 11 #[.agg #[.slice a0 P.f0.length c0, .int .i64 P.f1, .int .i64 P.f2, .slice a3 P.f3.length c3]] w (fun e w' => e = .returned (.bool (visitB P)) ∧ Below w.heap.size w w')
  value : ∀ (lo hi : Nat) (R : TResource) (w : World) (a : Option Addr) (c : Nat), Lies lo hi w (ints R.f1) (.slice a R.f1.length c) → hi ≤ w.heap.size → R.f1.length ≤ 1048576 → Calls Try.prog 15 #[.agg #[.int .i64 R.f0, .slice a R.f1.length c, .int .i64 R.f2.f0, .int .i64 R.f2.f1, .int .i64 R.f2.f2]] w (fun e w' => e = .returned (.int .i64 (valueR R)) ∧ Below w.heap.size w w')
  live : ∀ (P : TVisit) (W : TWant) (n : Int) (w : World) (a0 : Option Addr) (c0 : Nat) (a3 : Option Addr) (c3 : Nat), VSt w P a0 c0 a3 c3 → room (dVersion P.f0) ≤ 1048576 → P.f3.length ≤ 1048576 → (Lit.int .i64 P.f1).wf = true → (Lit.int .i64 P.f2).wf = true → (Lit.int .i64 W.f0).wf = true → WfA W.f1 → (Lit.int .i64 n).wf = true → Calls Try.prog 10 #[.agg #[.slice a0 P.f0.length c0, .int .i64 P.f1, .int .i64 P.f2, .slice a3 P.f3.length c3], .agg #[.int .i64 W.f0, .int .i64 W.f1.f0, .int .i64 W.f1.f1, .int .i64 W.f1.f2], .int .i64 n] w (fun e w' => e = .returned (.int .i64 (liveV P W n)) ∧ Below w.heap.size w w')
  ask : ∀ (P : TVisit) (W : TWant) (n : Int) (w : World) (a0 : Option Addr) (c0 : Nat) (a3 : Option Addr) (c3 : Nat), VSt w P a0 c0 a3 c3 → room (dVersion P.f0) ≤ 1048576 → P.f3.length ≤ 1048576 → (Lit.int .i64 P.f1).wf = true → (Lit.int .i64 P.f2).wf = true → (Lit.int .i64 W.f0).wf = true → WfA W.f1 → (Lit.int .i64 n).wf = true → Calls Try.prog 13 #[.agg #[.slice a0 P.f0.length c0, .int .i64 P.f1, .int .i64 P.f2, .slice a3 P.f3.length c3], .agg #[.int .i64 W.f0, .int .i64 W.f1.f0, .int .i64 W.f1.f1, .int .i64 W.f1.f2], .int .i64 n] w (GivenA w (askV P W n))
end Go.Proofs.Ytagnhfalmefbhaa.Visits
