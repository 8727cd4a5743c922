/-
  The stream of a key's bytes: the program's closure and what a call of it does.
  Conditions: the closure's two variables lie in memory.
-/
import Derived.Test.YtmiemfecbllhfaaKeyed
namespace Go.Proofs.Ytmiemfecbllhfaa.Hsh
open Go Go.RowKit Go.Proofs.Ytmiemfecbllhfaa.Mem
set_option linter.unusedVariables false

/-- The closure's two variables: block B holds the key, block B + 1 the place. -/
def Tape (B : Nat) (k p : Int) (w : World) : Prop :=
  w.heap[B]? = some (.cells #[.int .i64 k] 3 (0, 0)) ∧ w.heap[B + 1]? = some (.cells #[.int .i64 p] 3 (0, 0))

set_option maxRecDepth 100000 in
theorem stream_any (k : Int) (w : World) :
    Calls Try.prog 48 #[.int .i64 k] w fun e w' =>
      e = .returned (.func (Fn.func 61) #[] #[.pointer (some ⟨w.heap.size + 1, 0, none⟩), .pointer (some ⟨w.heap.size, 0, none⟩)]) ∧ Tape w.heap.size k (-1) w' ∧ Below w.heap.size w w' ∧ w'.heap.size = w.heap.size + 2 := by
  have hmf : ∀ (fn : Fn) (first cap : Array Value) (w : World), (Instr.makeFunc fn first cap).run Try.prog w = .ok (.func fn first cap) w := fun _ _ _ _ => rfl
  go_enter Try.func48, Try.ntmps48
  go_wp2
  go_ret
  refine ⟨rfl, ⟨?_, ?_⟩, ((Below.refl _ _).alloc (Nat.le_refl _) _).alloc (by simp) _, by simp⟩
  · rw [Below.heap_alloc _ _ _ (by simp)]; exact heap_alloc_new w _
  · have := heap_alloc_new (w.alloc (.cells #[.int .i64 k] 3)) (.cells #[.int .i64 (-1)] 3)
    simpa using this

set_option maxHeartbeats 1000000 in
set_option maxRecDepth 100000 in
theorem next_any (B : Nat) (k : Int) (p : Int) (x : Int) (w : World) (ht : Tape B k p w) (hk : (Lit.int .i64 k).wf = true) (hp : -1 ≤ p) (hp2 : p ≤ 1099511627776) (hx : Hid (khash k [p + 1] % 256 = x)) :
    Calls Try.prog 61 #[.pointer (some ⟨B + 1, 0, none⟩), .pointer (some ⟨B, 0, none⟩)] w fun e w' =>
      e = .returned (.int .u8 x) ∧ Tape B k (p + 1) w' ∧ Zone (B + 1) (B + 2) w w' := by
  have c0 : w.cell? ⟨B, 0, none⟩ = some (.int .i64 k) := by simp [World.cell?, ht.1]
  have c1 : w.cell? ⟨B + 1, 0, none⟩ = some (.int .i64 p) := by simp [World.cell?, ht.2]
  have f1 := frozen_of_row w (B + 1) 0 _ _ ht.2
  have hne : ¬ B = B + 1 := by omega
  have hl0 := cell_lt c0
  have hl1 := cell_lt c1
  have hz1 : Zone (B + 1) (B + 2) w (w.setCell ⟨B + 1, 0, none⟩ (.int .i64 (p + 1))) := (Zone.refl _ _ w).setCell ⟨Nat.le_refl _, by omega⟩ _
  have ht1 : Tape B k (p + 1) (w.setCell ⟨B + 1, 0, none⟩ (.int .i64 (p + 1))) := by
    refine ⟨?_, ?_⟩
    · rw [heap_setCell_other _ _ _ _ (by simp)]; exact ht.1
    · have := heap_setCell_same w (B + 1) 0 _ _ (.int .i64 (p + 1)) ht.2
      simpa using this
  obtain ⟨w1, hw1⟩ : ∃ w1, Hid ((w.setCell ⟨B + 1, 0, none⟩ (.int .i64 (p + 1))) = w1) := ⟨_, rfl⟩
  rw [hw1.out] at hz1 ht1
  have hb2 := (Below.refl w1.heap.size w1).alloc (Nat.le_refl _) (.cells #[.int .i64 (p + 1)] 3)
  have hcell : (w1.alloc (.cells #[.int .i64 (p + 1)] 3)).cell? ⟨w1.heap.size, 0, none⟩ = some (.int .i64 (p + 1)) := by
    rw [World.cell?_alloc_at _ _ _ _ rfl]; rfl
  have hr := one_row (p + 1) (w1.alloc (.cells #[.int .i64 (p + 1)] 3)) w1 w1.heap.size (WalkArith.wf_i64 (by omega)) hcell
  have hR := khash_range k [p + 1]
  have hkh := khash_impl _ _ _ _ 1 1 k _ hr (by simp) hk (by omega)
  have hs2 : (w1.alloc (.cells #[.int .i64 (p + 1)] 3)).heap.size = w1.heap.size + 1 := by simp
  obtain ⟨y, hy⟩ : ∃ y, Hid (khash k [p + 1] = y) := ⟨_, rfl⟩
  rw [hy.out] at hR hkh
  have hxy : x = y % 256 := by rw [← hx.out, hy.out]
  subst hxy
  have hw1s : w1.heap.size = w.heap.size := by rw [← hw1.out]; simp
  rw [hw1s, ← hw1.out] at hkh
  obtain ⟨y0, y1⟩ := hR
  go_enter Try.func61, Try.ntmps61
  go_wp2_with fail
  go_at_call 19
  refine hkh.mono ?_
  rintro e w3 ⟨rfl, hb3⟩
  rw [hw1.out] at hb3
  have hB3 := hb2.trans (hb3.mono (by omega))
  go_wp2
  go_ret
  refine ⟨rfl, ⟨?_, ?_⟩, hz1.trans (Zone.of_below hB3)⟩
  · rw [hB3.block _ (by omega)]; exact ht1.1
  · rw [hB3.block _ (by omega)]; exact ht1.2
end Go.Proofs.Ytmiemfecbllhfaa.Hsh
