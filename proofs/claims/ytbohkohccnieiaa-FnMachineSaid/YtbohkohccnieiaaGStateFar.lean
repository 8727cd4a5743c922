/-
  Marks written into a struct (State) whose rows may share a block.
  Conditions: the rows are a call's own and have no place in common.
-/
import Derived.Test.YtbohkohccnieiaaGState
import Derived.Test.YtbohkohccnieiaaDatFar
namespace Go.Proofs.Ytbohkohccnieiaa.Gen
open Go Go.RowKit Go.Proofs.Ytbohkohccnieiaa.Mem

set_option maxHeartbeats 1600000 in
set_option maxRecDepth 100000 in
theorem gmark_StateF {w : World} (P : TState) {A1 : Option Addr} {c1 : Nat} {A2 : Option Addr} {c2 : Nat} {A3 : Option Addr} {c3 : Nat} {S1 : Nat → Prop} {S2 : Nat → Prop} {S3 : Nat → Prop} (m : Nat) (h1 : Owns w (ints P.f1) (.slice A1 P.f1.length c1) S1) (h2 : Owns w (ints P.f2) (.slice A2 P.f2.length c2) S2) (h3 : Owns w (ints P.f3) (.slice A3 P.f3.length c3) S3) (d12 : Far A1 P.f1.length A2 P.f2.length) (d13 : Far A1 P.f1.length A3 P.f3.length) (d23 : Far A2 P.f2.length A3 P.f3.length) (hin1 : ∀ {t}, S1 t → t < w.heap.size) (hin2 : ∀ {t}, S2 t → t < w.heap.size) (hin3 : ∀ {t}, S3 t → t < w.heap.size) (hm : m + ct (ints P.f1) + ct (ints P.f2) + ct (ints P.f3) ≤ 1125899906842624) :
    Calls Try.prog 23 #[(Value.agg #[.int .i64 P.f0, .slice A1 P.f1.length c1, .slice A2 P.f2.length c2, .slice A3 P.f3.length c3]), .int .i64 m] w fun e w' => e = .returned (.int .i64 ((m + ct (ints P.f1) + ct (ints P.f2) + ct (ints P.f3) : Nat) : Int)) ∧ Owns w' (mk (m) (ints P.f1)) (.slice A1 P.f1.length c1) S1 ∧ Owns w' (mk (m + ct (ints P.f1)) (ints P.f2)) (.slice A2 P.f2.length c2) S2 ∧ Owns w' (mk (m + ct (ints P.f1) + ct (ints P.f2)) (ints P.f3)) (.slice A3 P.f3.length c3) S3 ∧ Turn (fun t => S1 t ∨ S2 t ∨ S3 t) w w' := by
  have hB : Below w.heap.size w (w.alloc (.cells #[Value.int .i64 P.f0, .slice A1 P.f1.length c1, .slice A2 P.f2.length c2, .slice A3 P.f3.length c3] 27)) := by repeat' (first | exact Below.refl _ _ | assumption | refine Below.setCell ?_ ?_ _ | refine Below.alloc ?_ ?_ _ | refine Gen.gbelow_drewN ?_ _ | refine Below.drew ?_ | exact Nat.le_refl _ | omega | (dsimp only; omega) | refine Gen.gle_alloc ?_ | refine Gen.gle_set ?_ | refine Gen.gle_drewN ?_ | refine Gen.gle_drew ?_)
  have qA := Blk.new 27 [Value.int .i64 P.f0, .slice A1 P.f1.length c1, .slice A2 P.f2.length c2, .slice A3 P.f3.length c3] w
  have h1 := h1.below hB
  have h2 := h2.below hB
  have h3 := h3.below hB
  have hT : Turn (fun t => S1 t ∨ S2 t ∨ S3 t) w _ := Turn.of_below hB
  obtain ⟨m1, hm1⟩ : ∃ y : Nat, m + ct (ints P.f1) = y := ⟨_, rfl⟩
  obtain ⟨m2, hm2⟩ : ∃ y : Nat, m1 + ct (ints P.f2) = y := ⟨_, rfl⟩
  obtain ⟨m3, hm3⟩ : ∃ y : Nat, m2 + ct (ints P.f3) = y := ⟨_, rfl⟩
  rw [hm1, hm2, hm3] at hm ⊢
  go_enter Try.func23, Try.ntmps23
  have ca0 : (w.alloc (.cells #[Value.int .i64 P.f0, .slice A1 P.f1.length c1, .slice A2 P.f2.length c2, .slice A3 P.f3.length c3] 27)).cell? ⟨w.heap.size, 0, none⟩ = some (.int .i64 P.f0) := qA.at rfl
  have ca1 : (w.alloc (.cells #[Value.int .i64 P.f0, .slice A1 P.f1.length c1, .slice A2 P.f2.length c2, .slice A3 P.f3.length c3] 27)).cell? ⟨w.heap.size, 1, none⟩ = some (.slice A1 P.f1.length c1) := qA.at rfl
  have ca2 : (w.alloc (.cells #[Value.int .i64 P.f0, .slice A1 P.f1.length c1, .slice A2 P.f2.length c2, .slice A3 P.f3.length c3] 27)).cell? ⟨w.heap.size, 2, none⟩ = some (.slice A2 P.f2.length c2) := qA.at rfl
  have ca3 : (w.alloc (.cells #[Value.int .i64 P.f0, .slice A1 P.f1.length c1, .slice A2 P.f2.length c2, .slice A3 P.f3.length c3] 27)).cell? ⟨w.heap.size, 3, none⟩ = some (.slice A3 P.f3.length c3) := qA.at rfl
  have hM := gmark_far m h1 (by omega)
  rw [hm1] at hM
  go_wp2_with fail
  go_at_call 54
  refine Calls.mono hM ?_
  rintro e w1 ⟨rfl, ho1, ht, hk⟩
  have qA : Blk 27 w.heap.size [Value.int .i64 P.f0, .slice A1 P.f1.length c1, .slice A2 P.f2.length c2, .slice A3 P.f3.length c3] w1 := (ht.block _ qA.lt fun hS => absurd (@hin1 _ hS) (Nat.lt_irrefl _)).trans qA
  have h1 := ho1
  have h2 := hk _ _ _ _ _ d12 h2
  have h3 := hk _ _ _ _ _ d13 h3
  have hT := hT.trans (ht.mono fun t hS => by simp [hS])
  clear ht hk ho1 hM ca0 ca1 ca2 ca3
  have ca0 : w1.cell? ⟨w.heap.size, 0, none⟩ = some (.int .i64 P.f0) := qA.at rfl
  have ca1 : w1.cell? ⟨w.heap.size, 1, none⟩ = some (.slice A1 P.f1.length c1) := qA.at rfl
  have ca2 : w1.cell? ⟨w.heap.size, 2, none⟩ = some (.slice A2 P.f2.length c2) := qA.at rfl
  have ca3 : w1.cell? ⟨w.heap.size, 3, none⟩ = some (.slice A3 P.f3.length c3) := qA.at rfl
  have hM := gmark_far m1 h2 (by omega)
  rw [hm2] at hM
  go_wp2_with fail
  go_at_call 54
  refine Calls.mono hM ?_
  rintro e w2 ⟨rfl, ho2, ht, hk⟩
  have qA : Blk 27 w.heap.size [Value.int .i64 P.f0, .slice A1 P.f1.length c1, .slice A2 P.f2.length c2, .slice A3 P.f3.length c3] w2 := (ht.block _ qA.lt fun hS => absurd (@hin2 _ hS) (Nat.lt_irrefl _)).trans qA
  have h1 := hk _ _ _ _ _ d12.symm h1
  have h2 := ho2
  have h3 := hk _ _ _ _ _ d23 h3
  have hT := hT.trans (ht.mono fun t hS => by simp [hS])
  clear ht hk ho2 hM ca0 ca1 ca2 ca3
  have ca0 : w2.cell? ⟨w.heap.size, 0, none⟩ = some (.int .i64 P.f0) := qA.at rfl
  have ca1 : w2.cell? ⟨w.heap.size, 1, none⟩ = some (.slice A1 P.f1.length c1) := qA.at rfl
  have ca2 : w2.cell? ⟨w.heap.size, 2, none⟩ = some (.slice A2 P.f2.length c2) := qA.at rfl
  have ca3 : w2.cell? ⟨w.heap.size, 3, none⟩ = some (.slice A3 P.f3.length c3) := qA.at rfl
  have hM := gmark_far m2 h3 (by omega)
  rw [hm3] at hM
  go_wp2_with fail
  go_at_call 54
  refine Calls.mono hM ?_
  rintro e w3 ⟨rfl, ho3, ht, hk⟩
  have qA : Blk 27 w.heap.size [Value.int .i64 P.f0, .slice A1 P.f1.length c1, .slice A2 P.f2.length c2, .slice A3 P.f3.length c3] w3 := (ht.block _ qA.lt fun hS => absurd (@hin3 _ hS) (Nat.lt_irrefl _)).trans qA
  have h1 := hk _ _ _ _ _ d13.symm h1
  have h2 := hk _ _ _ _ _ d23.symm h2
  have h3 := ho3
  have hT := hT.trans (ht.mono fun t hS => by simp [hS])
  clear ht hk ho3 hM ca0 ca1 ca2 ca3
  go_wp2
  go_ret
  have v1 : m + P.f1.length ≤ 9223372036854775807 := by have := ct_ints P.f1; omega
  have v2 : m1 + P.f2.length ≤ 9223372036854775807 := by have := ct_ints P.f2; omega
  have v3 : m2 + P.f3.length ≤ 9223372036854775807 := by have := ct_ints P.f3; omega
  exact ⟨rfl, Owns.mk_ints h1 v1, Owns.mk_ints h2 v2, Owns.mk_ints h3 v3, hT⟩
end Go.Proofs.Ytbohkohccnieiaa.Gen
