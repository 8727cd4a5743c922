/-
  What a path proves, as plain facts: the path that is told leads from the element to the root; no other digest, and no path with another number at one place, leads there.
  Conditions: numbers that a digest may be; at most a thousand of them.
-/
import Derived.Test.YtggfpjcfjcoaiaaCheckI
import Derived.Test.YtggfpjcfjcoaiaaDraws6
namespace Go.Proofs.Ytggfpjcfjcoaiaa.Tre
open Go Go.RowKit Go.Proofs.Ytggfpjcfjcoaiaa.Mem Go.Proofs.Ytggfpjcfjcoaiaa.Hsh
set_option linter.unusedVariables false

theorem okPath_true {rt n i d : Int} {ps : List Int} (h : okPath rt n i d ps = true) : depthOf n i = ps.length := by
  unfold okPath at h; exact (of_decide_eq_true h).1
theorem depth_at {zs : List Int} {I : Nat} (h : I < zs.length) (hn : zs.length ≤ 1000) : depthOf zs.length I = ((pathOf zs I).length : Int) := by
  rw [depthOf_in (by omega) (by omega) (by omega), pathOf_len]; simp
theorem law_at {zs : List Int} {I : Nat} (h : I < zs.length) (hn : zs.length ≤ 1000) : okPath (root zs) zs.length I (zs.getD I 0) (pathOf zs I) = true := by
  rw [okPath_at (depth_at h hn), Int.toNat_natCast, Int.toNat_natCast, climbed_whole zs I _ h (fun _ _ => rfl)]; simp
theorem law_digest {zs : List Int} {I : Nat} {e : Int} (h : I < zs.length) (hn : zs.length ≤ 1000) (he : e % 2147483647 ≠ zs.getD I 0 % 2147483647) : okPath (root zs) zs.length I e (pathOf zs I) = false := by
  rw [okPath_at (depth_at h hn), Int.toNat_natCast, Int.toNat_natCast]
  have h1 := climbed_whole zs I (fun j => (pathOf zs I).getD j 0) h (fun _ _ => rfl)
  have h2 := climbed_digest zs.length zs.length I e (zs.getD I 0) (fun j => (pathOf zs I).getD j 0) (Nat.le_refl _) he
  rw [h1] at h2
  exact beq_eq_false_iff_ne.2 fun e => h2 (by rw [e])
theorem law_beside {zs : List Int} {I j : Nat} {z : Int} (h : I < zs.length) (hn : zs.length ≤ 1000) (hj : j < (pathOf zs I).length) (hz : z % 2147483647 ≠ (pathOf zs I).getD j 0 % 2147483647) : okPath (root zs) zs.length I (zs.getD I 0) ((pathOf zs I).set j z) = false := by
  rw [okPath_at (by rw [List.length_set]; exact depth_at h hn), Int.toNat_natCast, Int.toNat_natCast]
  have h1 := climbed_whole zs I (fun j => (pathOf zs I).getD j 0) h (fun _ _ => rfl)
  have h2 := climbed_beside zs.length zs.length I j (zs.getD I 0) (fun k => ((pathOf zs I).set j z).getD k 0) (fun k => (pathOf zs I).getD k 0) (Nat.le_refl _) (by rw [← pathOf_len]; exact hj)
    (by rw [List.getD_eq_getElem?_getD, List.getElem?_set_self hj]; exact hz)
    (fun k hk => by rw [List.getD_eq_getElem?_getD, List.getElem?_set_ne (fun e => hk e.symm), ← List.getD_eq_getElem?_getD])
  rw [h1] at h2
  exact beq_eq_false_iff_ne.2 fun e => h2 (by rw [e])
theorem path_range {zs : List Int} (h : Draw.Dgs zs) (I : Nat) : Draw.Dgs (pathOf zs I) := by
  intro z hz
  rw [pathOf, List.mem_map] at hz
  obtain ⟨s, _, rfl⟩ := hz
  exact Draw.root_range (fun z hz => h z (List.mem_of_mem_drop (List.mem_of_mem_take hz)))
/-- The law's last part: a path that is taken has as many numbers as there are steps. -/
theorem check_last (lo hi m c : Nat) (rt n i d : Int) (w : World) (a : Option Addr) (ps : List Int) (hr : Row .i64 lo hi w a m ps) (hh : hi ≤ w.heap.size) (hm : m ≤ 1099511627776) (wd : (Lit.int .i64 d).wf = true) :
    (Calls Try.prog 13 #[.int .i64 rt, .int .i64 n, .int .i64 i, .int .i64 d, .slice a m c] w fun e w' => e = .returned (.bool false) ∧ Below w.heap.size w w') ∨
    ((Calls Try.prog 13 #[.int .i64 rt, .int .i64 n, .int .i64 i, .int .i64 d, .slice a m c] w fun e w' => e = .returned (.bool true) ∧ Below w.heap.size w w') ∧
      ∀ W, Calls Try.prog 12 #[.int .i64 n, .int .i64 i] W fun e w' => e = .returned (.int .i64 m) ∧ Below W.heap.size W w') := by
  have h := check_impl lo hi m c rt n i d w a ps hr hh hm wd
  by_cases hk : okPath rt n i d ps = true
  · refine .inr ⟨by rw [hk] at h; exact h, fun W => ?_⟩
    have h2 := depth_impl n i W
    rw [okPath_true hk, hr.len] at h2
    exact h2
  · rw [Bool.not_eq_true] at hk
    rw [hk] at h
    exact .inl h
end Go.Proofs.Ytggfpjcfjcoaiaa.Tre
