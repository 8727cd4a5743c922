/-
  The program's splitAddress: a text cut at the marks of an address.
  Conditions: the text takes no more than 2^48 bytes.
-/
import Derived.Test.YtoiaigmfoglcbaaDoorMemV
import Derived.Test.YtoiaigmfoglcbaaDoorSplitMath
import Derived.Test.YtoiaigmfoglcbaaDoorAdr
import Derived.WalkKit
import Derived.Lib.Strings
import Derived.Deep.LoopGhost
namespace Go.Proofs.YtoiaigmfoglcbaaDoor.Adr
open Go Go.RowKit Go.Proofs.YtoiaigmfoglcbaaDoor.Mem

/-- The pieces of a text. -/
def Pieces (l : List UInt8) (xs : List ByteArray) : Prop :=
  (∃ x : ByteArray, xs = [x] ∧ x.data.toList = l ∧ 47 ∉ l) ∨ (∃ x y : ByteArray, xs = [x, y] ∧ Sp1 l x.data.toList y.data.toList) ∨ (∃ x y z : ByteArray, xs = [x, y, z] ∧ Sp2 l x.data.toList y.data.toList z.data.toList)

theorem info_text : (Tryd.prog.info? 9).map (fun i => (i.zero, i.size, i.bytes)) = some (some (.string ⟨#[]⟩), 1, 16) := by kernel_rfl

theorem cell_new {w : World} (v : Value) (T : TypeId) {b : Nat} (hb : b = w.heap.size) : (w.alloc (.cells #[v] T)).cell? ⟨b, 0, none⟩ = some v := by
  subst hb
  rw [World.cell?_alloc_mark w _ T (0, 0) 0]; rfl

theorem split_end {w w' : World} {l : List UInt8} {v : Value} {n : Nat} (xs : List ByteArray) (ho : OwnV 9 w.heap.size w' v n (xs.map Value.string)) (h0 : xs ≠ []) (hp : Pieces l xs) :
    ∃ (xs : List ByteArray) (b c : Nat), Ending.returned v = .returned (.slice (some ⟨b, 0, none⟩) xs.length c) ∧ w.heap.size ≤ b ∧ xs.length ≤ c ∧ c ≤ maxLen ∧ (∀ j (h : j < xs.length), w'.cell? ⟨b, j, none⟩ = some (.string xs[j])) ∧ Pieces l xs := by
  have hl := ho.len
  rw [List.length_map] at hl
  have hpos : 0 < n := by rw [← hl]; cases xs with | nil => exact absurd rfl h0 | cons => simp
  obtain ⟨g, c, rfl, hg, h1, h2, h3⟩ := ho.cells hpos
  subst hl
  exact ⟨xs, g, c, rfl, hg, h1, h2, fun j hj => by rw [h3 j (by simpa using hj)]; simp, hp⟩

set_option maxHeartbeats 1000000 in
set_option maxRecDepth 100000 in
theorem split_any (s : ByteArray) (w : World) (hs : s.size ≤ 281474976710656) :
    Calls Tryd.prog 22 #[.string s] w fun e w' => (∃ (xs : List ByteArray) (b c : Nat), e = .returned (.slice (some ⟨b, 0, none⟩) xs.length c) ∧ w.heap.size ≤ b ∧ xs.length ≤ c ∧ c ≤ maxLen ∧ (∀ j (h : j < xs.length), w'.cell? ⟨b, j, none⟩ = some (.string xs[j])) ∧ Pieces s.data.toList xs) ∧ Below w.heap.size w w' := by
  obtain ⟨i0, hi0, hz0, hz1, hz2⟩ := info_parts info_text
  have ho0 := (OwnV.made 9 (base := w.heap.size) w (Nat.le_refl _)).alloc (.cells #[.int .u8 47, .int .u8 63] 5)
  have hb0 : Below w.heap.size w ((w.alloc (.cells #[] 9)).alloc (.cells #[.int .u8 47, .int .u8 63] 5)) := by repeat' (first | exact Below.refl _ _ | assumption | refine Below.setCell ?_ ?_ _ | refine Below.alloc ?_ ?_ _ | refine Adr.below_drewN ?_ _ | refine Below.drew ?_ | exact Nat.le_refl _ | omega | refine Adr.le_alloc ?_ | refine Adr.le_set ?_ | refine Adr.le_drewN ?_ | refine Adr.le_drew ?_)
  rcases first_of s 47 0 with f0 | ⟨p, _, hp, hpc, f0⟩
  · have hpc := pieces0 f0
    go_enter Tryd.func22, Tryd.ntmps22
    go_wp2
    go_step3
    go_wp2
    go_step3
    go_wp2
    refine wp_loop_rounds 3 ?_
    rw [rounds_succ]
    go_wp2
    go_loop [3, 4, 7] (fun u v i => OwnV 9 w.heap.size ((w.alloc (.cells #[] 9)).alloc (.cells #[.int .u8 47, .int .u8 63] 5)) u 0 [] ∧ some (w.heap.size + 1) ≠ u.ownBlock ∧ v = .int .i64 0 ∧ ∃ k : Nat, k ≤ s.size ∧ i = .int .i64 k) (fun _ _ i => s.size - (intOf i).toNat)
    case atStart => exact ⟨ho0, by simp [Value.ownBlock], rfl, 0, Nat.zero_le _, rfl⟩
    case round =>
      obtain ⟨hu, hub, rfl, k, hk, rfl⟩ := hrel
      by_cases hlt : k < s.size
      · have hf := tag_ne hlt 47 47 rfl (f0 k (Nat.zero_le _) hlt)
        go_wp2
        exact ⟨⟨hu, hub, rfl, k + 1, by omega, by go_num⟩, by simp [intOf]; omega⟩
      · obtain rfl : k = s.size := by omega
        have hx : (0 : Int) ≤ (s.size : Int) := by omega
        go_wp2_with (at_builtin; refine wpList_append_val rfl _ _ 45 rfl w.heap.size 9 i0 _ 16 Tryd.underlying45 hi0 hz0 hz1 hz2 rfl _ 0 [] rfl (hu.alloc _) _ 1 (.string s) rfl rfl ?c2 ?c3 ?c4 ?c5 ?_; (case c2 => exact cell_new _ _ (by first | rfl | simp)); (case c3 => unfold maxLen; omega); (case c4 => omega); (case c5 => exact le_alloc hb0.size); intro v' w' ho2 hb' _)
        go_ret
        exact ⟨split_end [s] ho2 (by simp) (.inl ⟨_, rfl, rfl, hpc.2⟩), (hb0.alloc hb0.size _).trans hb'⟩
  · go_enter Tryd.func22, Tryd.ntmps22
    go_wp2
    go_step3
    go_wp2
    go_step3
    go_wp2
    refine wp_loop_rounds 3 ?_
    rw [rounds_succ]
    go_wp2
    go_loop [3, 4, 7] (fun u v i => OwnV 9 w.heap.size ((w.alloc (.cells #[] 9)).alloc (.cells #[.int .u8 47, .int .u8 63] 5)) u 0 [] ∧ some (w.heap.size + 1) ≠ u.ownBlock ∧ v = .int .i64 0 ∧ ∃ k : Nat, k ≤ p ∧ i = .int .i64 k) (fun _ _ i => p - (intOf i).toNat)
    case atStart => exact ⟨ho0, by simp [Value.ownBlock], rfl, 0, Nat.zero_le _, rfl⟩
    case round =>
      obtain ⟨hu, hub, rfl, k, hk, rfl⟩ := hrel
      have hlt : k < s.size := by omega
      by_cases hkp : k < p
      · have hf := tag_ne hlt 47 47 rfl (f0 k (Nat.zero_le _) hkp)
        go_wp2
        exact ⟨⟨hu, hub, rfl, k + 1, by omega, by go_num⟩, by simp [intOf]; omega⟩
      · obtain rfl : k = p := by omega
        have hf := tag_eq hlt 47 47 rfl hpc
        have hx0 : (0 : Int) ≤ (k : Int) := by omega
        have hx1 : (k : Int) ≤ (s.size : Int) := by omega
        go_wp2_with (at_builtin; refine wpList_append_val rfl _ _ 45 rfl w.heap.size 9 i0 _ 16 Tryd.underlying45 hi0 hz0 hz1 hz2 rfl _ 0 [] rfl (hu.alloc _) _ 1 (.string (s.extract 0 k)) rfl rfl ?c2 ?c3 ?c4 ?c5 ?_; (case c2 => exact cell_new _ _ (by first | rfl | simp)); (case c3 => unfold maxLen; omega); (case c4 => omega); (case c5 => exact le_alloc hb0.size); intro v1 w1 ho1 hb1 hk1)
        have hm : w1.cell? ⟨w.heap.size + 1, 1, none⟩ = some (.int .u8 63) := by
          rw [cell_of_heap (hk1 (w.heap.size + 1) (by simp) hub)]
          rw [World.cell?_of_block (Below.heap_alloc _ _ _ (by simp)), ← size_alloc w (.cells #[] 9), World.cell?_alloc_mark _ _ _ (0, 0) 1]; rfl
        have hb2 : Below w.heap.size w w1 := (hb0.alloc hb0.size _).trans hb1
        clear hu hub hk1 hb1 hb0 ho0
        rw [rounds_succ]
        go_wp2
        rcases first_of s 63 (k + 1) with g0 | ⟨q, hkq, hq, hqc, g0⟩
        · have hP := pieces1 hlt hpc f0 g0
          go_loop [3, 4, 7] (fun u v i => OwnV 9 w.heap.size w1 u 1 [.string (s.extract 0 k)] ∧ v = .int .i64 ((k + 1 : Nat) : Int) ∧ ∃ j : Nat, k + 1 ≤ j ∧ j ≤ s.size ∧ i = .int .i64 j) (fun _ _ i => s.size - (intOf i).toNat)
          case atStart => exact ⟨ho1, by go_num, k + 1, Nat.le_refl _, hlt, by go_num⟩
          case round =>
            obtain ⟨hu, rfl, j, hj0, hj1, rfl⟩ := hrel
            by_cases hjs : j < s.size
            · have hf := tag_ne hjs 63 63 rfl (g0 j hj0 hjs)
              go_wp2
              exact ⟨⟨hu, rfl, j + 1, by omega, by omega, by go_num⟩, by simp [intOf]; omega⟩
            · obtain rfl : j = s.size := by omega
              have hy0 : (0 : Int) ≤ (k : Int) + 1 := by omega
              have hy1 : (k : Int) + 1 ≤ (s.size : Int) := by omega
              go_wp2_with (at_builtin; refine wpList_append_val rfl _ _ 45 rfl w.heap.size 9 i0 _ 16 Tryd.underlying45 hi0 hz0 hz1 hz2 rfl _ 1 [.string (s.extract 0 k)] rfl (hu.alloc _) _ 1 (.string (s.extract (k + 1) s.size)) rfl rfl ?c2 ?c3 ?c4 ?c5 ?_; (case c2 => exact cell_new _ _ (by first | rfl | simp)); (case c3 => unfold maxLen; omega); (case c4 => omega); (case c5 => exact le_alloc hb2.size); intro v' w' ho2 hb' _)
              go_ret
              exact ⟨split_end [s.extract 0 k, s.extract (k + 1) s.size] ho2 (by simp) (.inr (.inl ⟨_, _, rfl, hP⟩)), (hb2.alloc hb2.size _).trans hb'⟩
        · have hP := pieces2 hlt hpc f0 hkq hq hqc g0
          go_loop [3, 4, 7] (fun u v i => OwnV 9 w.heap.size w1 u 1 [.string (s.extract 0 k)] ∧ v = .int .i64 ((k + 1 : Nat) : Int) ∧ ∃ j : Nat, k + 1 ≤ j ∧ j ≤ q ∧ i = .int .i64 j) (fun _ _ i => q - (intOf i).toNat)
          case atStart => exact ⟨ho1, by go_num, k + 1, Nat.le_refl _, hkq, by go_num⟩
          case round =>
            obtain ⟨hu, rfl, j, hj0, hj1, rfl⟩ := hrel
            have hjs : j < s.size := by omega
            by_cases hjq : j < q
            · have hf := tag_ne hjs 63 63 rfl (g0 j hj0 hjq)
              go_wp2
              exact ⟨⟨hu, rfl, j + 1, by omega, by omega, by go_num⟩, by simp [intOf]; omega⟩
            · obtain rfl : j = q := by omega
              have hf := tag_eq hjs 63 63 rfl hqc
              have hy0 : (0 : Int) ≤ (k : Int) + 1 := by omega
              have hy1 : (k : Int) + 1 ≤ (j : Int) := by omega
              have hy2 : (j : Int) ≤ (s.size : Int) := by omega
              go_wp2_with (at_builtin; refine wpList_append_val rfl _ _ 45 rfl w.heap.size 9 i0 _ 16 Tryd.underlying45 hi0 hz0 hz1 hz2 rfl _ 1 [.string (s.extract 0 k)] rfl (hu.alloc _) _ 1 (.string (s.extract (k + 1) j)) rfl rfl ?c2 ?c3 ?c4 ?c5 ?_; (case c2 => exact cell_new _ _ (by first | rfl | simp)); (case c3 => unfold maxLen; omega); (case c4 => omega); (case c5 => exact le_alloc hb2.size); intro v2 w2 ho2 hb' _)
              have hb3 : Below w.heap.size w w2 := (hb2.alloc hb2.size _).trans hb'
              have hz0 : (0 : Int) ≤ (j : Int) + 1 := by omega
              have hz1 : (j : Int) + 1 ≤ (s.size : Int) := by omega
              clear hu ho1 hb2 hb'
              rw [rounds_succ]
              go_wp2_with (at_builtin; refine wpList_append_val rfl _ _ 45 rfl w.heap.size 9 i0 _ 16 Tryd.underlying45 hi0 (by assumption) (by assumption) hz2 rfl _ 2 [.string (s.extract 0 k), .string (s.extract (k + 1) j)] rfl (ho2.alloc _) _ 1 (.string (s.extract (j + 1) s.size)) rfl rfl ?c2 ?c3 ?c4 ?c5 ?_; (case c2 => exact cell_new _ _ (by first | rfl | simp)); (case c3 => unfold maxLen; omega); (case c4 => omega); (case c5 => exact le_alloc hb3.size); intro v3 w3 ho3 hb' _)
              rw [Exit.noGoto_ret]
              go_ret
              exact ⟨split_end [s.extract 0 k, s.extract (k + 1) j, s.extract (j + 1) s.size] ho3 (by simp) (.inr (.inr ⟨_, _, _, rfl, hP⟩)), (hb3.alloc hb3.size _).trans hb'⟩
end Go.Proofs.YtoiaigmfoglcbaaDoor.Adr
